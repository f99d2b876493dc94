/- Own text: the walk of New. the walks of addHigh, Add, Value. the value of a sum of kind 32. the walks of has, mayBe, sumOf. -/
import Derived.Test.YtjkamannjgcmiaaDoorG24x
import Derived.Deep.RegionWith
import Derived.Test.YtjkamannjgcmiaaDoorG22x
namespace Go.Proofs.YtjkamannjgcmiaaDoor
open Go.RowKit
set_option linter.unusedSimpArgs false
set_option linter.unusedVariables false
namespace S3


set_option maxRecDepth 20000 in
set_option maxHeartbeats 1600000 in
theorem new_spec (k kd wd pol tn : Int) (lo : Bool) (T : Array Value) (C : Array Value) (hC : C.size = 262)
    (hrule : ∀ w, RulesAt w → Calls Tryd.prog 76 #[.int .i64 k] w fun e w' => e = .returned (.tuple #[.agg (ruleV kd wd pol lo tn), .bool true]) ∧ Below w.heap.size w w')
    (htab : ∀ w, Calls Tryd.prog 77 #[.agg (ruleV kd wd pol lo tn)] w fun e w' => e = .returned (.agg T) ∧ Below w.heap.size w w')
    (Z M : Array Value) (hz : ∀ w, (zeroValue 127).run Tryd.prog w = .ok (.agg Z) w) (hZ : Z.size = 262) (hT : T.size = 256)
    (hM : Array.foldl (fun cs (x : Value × Nat) => cs.setIfInBounds (5 + x.snd) x.fst) (((((Z.setIfInBounds 0 (.int .i64 kd)).setIfInBounds 1 (.int .i64 wd)).setIfInBounds 2 (.int .u32 pol)).setIfInBounds 3 (.bool lo)).setIfInBounds 4 (.int .u32 tn)) T.zipIdx 0 256 = M)
    (hMs : M.size = 262) (hMC : M.setIfInBounds 261 (.int .u32 tn) = C)
    (w : World) (hR : RulesAt w) :
    Calls Tryd.prog 66 #[.int .i64 k] w fun e w' => ∃ q, e = .returned (.pointer (some ⟨q, 0, none⟩)) ∧ w.heap.size ≤ q ∧ w'.heap[q]? = some (.cells C 127 (0, 0)) ∧ Below w.heap.size w w' := by
  have HR : Hid (∀ w, RulesAt w → Calls Tryd.prog 76 #[.int .i64 k] w fun e w' => e = .returned (.tuple #[.agg (ruleV kd wd pol lo tn), .bool true]) ∧ Below w.heap.size w w') := hrule
  have HT : Hid (∀ w, Calls Tryd.prog 77 #[.agg (ruleV kd wd pol lo tn)] w fun e w' => e = .returned (.agg T) ∧ Below w.heap.size w w') := htab
  clear hrule htab
  go_enter Tryd.func66, Tryd.ntmps66
  go_wp2_with fail
  refine (HR.out w hR).mono ?_
  rintro e w1 ⟨rfl, hB⟩
  have HB : Hid (Below w.heap.size w w1) := hB
  clear hB
  go_wp2_with fail
  generalize hwa : w1.alloc (.cells #[.int .i64 kd, .int .i64 wd, .int .u32 pol, .bool lo, .int .u32 tn] 121) = wa
  generalize hb : w1.heap.size = b
  have hrow : wa.heap[b]? = some (.cells (ruleV kd wd pol lo tn) 121 (0, 0)) := by
    rw [← hwa, ← hb]
    exact heap_alloc_last _ _
  have HW : Hid (Below w.heap.size w wa) := by
    rw [← hwa]
    exact HB.out.alloc HB.out.size _
  have HL : Hid (b < wa.heap.size) := lt_of_block hrow
  have hcells : ∀ w2, Below wa.heap.size wa.drew w2 → w2.cell? ⟨b, 0, none⟩ = some (.int .i64 kd) ∧ w2.cell? ⟨b, 1, none⟩ = some (.int .i64 wd) ∧ w2.cell? ⟨b, 2, none⟩ = some (.int .u32 pol) ∧ w2.cell? ⟨b, 3, none⟩ = some (.bool lo) ∧ w2.cell? ⟨b, 4, none⟩ = some (.int .u32 tn) := by
    intro w2 h2
    have h3 : w2.heap[b]? = some (.cells (ruleV kd wd pol lo tn) 121 (0, 0)) := by rw [h2.block b HL.out]; exact hrow
    refine ⟨?_, ?_, ?_, ?_, ?_⟩ <;> rw [cell_of_row _ _ _ _ _ _ h3] <;> rfl
  obtain ⟨c0, c1, c2, c3, c4⟩ := hcells wa ⟨rfl, rfl, rfl, Nat.le_refl _, fun _ _ => rfl⟩
  have HC : Hid (∀ w2, Below wa.heap.size wa.drew w2 → w2.cell? ⟨b, 0, none⟩ = some (.int .i64 kd) ∧ w2.cell? ⟨b, 1, none⟩ = some (.int .i64 wd) ∧ w2.cell? ⟨b, 2, none⟩ = some (.int .u32 pol) ∧ w2.cell? ⟨b, 3, none⟩ = some (.bool lo) ∧ w2.cell? ⟨b, 4, none⟩ = some (.int .u32 tn)) := hcells
  clear hcells hrow hwa hb HB
  go_region_with (go_at_call 77; refine (HT.out _).mono ?_; rintro e w2 ⟨rfl, hB2⟩; obtain ⟨e0, e1, e2, e3, e4⟩ := HC.out w2 hB2; have HB2 : Hid (Below wa.heap.size wa.drew w2) := hB2; clear hB2)
  all_goals go_wp2
  all_goals go_ret
  all_goals exact ⟨_, rfl, Nat.le_trans HW.out.size HB2.out.size, heap_alloc_last _ _, (HW.out.drew.trans (HB2.out.mono HW.out.size)).alloc (Nat.le_trans HW.out.size HB2.out.size) _⟩

/-- A sum in memory: its rule, its table, its register. -/
def SumAt (w : World) (q : Nat) (kd wd pol : Int) (lo : Bool) (tn : Int) (F : Nat → Nat) (reg : Nat) : Prop := w.heap[q]? = some (.cells (sumV kd wd pol lo tn F reg) 127 (0, 0))

/-- A sum of a kind, of nothing. -/
theorem new_of (k kd wd pol tn : Int) (lo : Bool) (F : Nat → Nat) (r : Nat) (hr : tn = (r : Int)) (hF : ∀ j, F j < 4294967296) (hX : ∀ a b, F (a ^^^ b) = F a ^^^ F b)
    (hM : ∀ (b : Nat), b < 256 → ∀ w, Calls Tryd.prog 81 #[.agg (ruleV kd wd pol lo tn), .int .u32 (b : Int)] w fun e w' => e = .returned (.int .u32 (F b : Int)) ∧ Below w.heap.size w w')
    (hrule : ∀ w, RulesAt w → Calls Tryd.prog 76 #[.int .i64 k] w fun e w' => e = .returned (.tuple #[.agg (ruleV kd wd pol lo tn), .bool true]) ∧ Below w.heap.size w w')
    (w : World) (hR : RulesAt w) :
    Calls Tryd.prog 66 #[.int .i64 k] w fun e w' => ∃ q, e = .returned (.pointer (some ⟨q, 0, none⟩)) ∧ w.heap.size ≤ q ∧ SumAt w' q kd wd pol lo tn F r ∧ Below w.heap.size w w' := by
  obtain ⟨h1, h2⟩ := zero_of_info zero127
  obtain ⟨e1, e2⟩ := built_sum kd wd pol lo tn F r hr _ (by simp : (#[.int .i64 0, .int .i64 0, .int .u32 0, .bool false, .int .u32 0] ++ Array.replicate 257 (.int .u32 0) : Array Value).size = 262)
  exact new_spec k kd wd pol tn lo (tabV F 256) (sumV kd wd pol lo tn F r) (sumV_size _ _ _ _ _ _ _) hrule (table_spec kd wd pol tn lo F hF hX hM) _ _ h1 (by simp) (tabV_size _ _) rfl e2 e1 w hR

/-- The four kinds. -/
abbrev S8 (w : World) (q : Nat) (reg : Nat) : Prop := SumAt w q 8 8 7 false 0 (fun b => (byteStep P8 0#32 b).toNat) reg
abbrev S16 (w : World) (q : Nat) (reg : Nat) : Prop := SumAt w q 16 16 32773 false 0 (fun b => (byteStep P16 0#32 b).toNat) reg
abbrev S32 (w : World) (q : Nat) (reg : Nat) : Prop := SumAt w q 32 32 79764919 false 0 (fun b => (byteStep p32 0#32 b).toNat) reg
abbrev S33 (w : World) (q : Nat) (reg : Nat) : Prop := SumAt w q 33 32 3988292384 true 4294967295 (fun b => (r8 q32 (BitVec.ofNat 32 b)).toNat) reg

theorem new_32 (w : World) (hR : RulesAt w) : Calls Tryd.prog 66 #[.int .i64 32] w fun e w' => ∃ q, e = .returned (.pointer (some ⟨q, 0, none⟩)) ∧ w.heap.size ≤ q ∧ S32 w' q 0 ∧ Below w.heap.size w w' :=
  new_of 32 32 32 79764919 0 false _ 0 rfl (fun j => lt32 _) (fun a b => by simp only [byteStep_zero_xor, BitVec.toNat_xor]) (fun b hb w => movedOf_high 32 32 79764919 0 (by decide) (by decide) p32 (by decide) b hb w) ruleOf_32 w hR
end S3
end Go.Proofs.YtjkamannjgcmiaaDoor

namespace Go.Proofs.YtjkamannjgcmiaaDoor
open Go.RowKit
set_option linter.unusedSimpArgs false
set_option linter.unusedVariables false
namespace S3


section
variable {w : World} {q : Nat} {kd wd pol : Int} {lo : Bool} {tn : Int} {F : Nat → Nat} {reg : Nat}
theorem SumAt.c0 (h : SumAt w q kd wd pol lo tn F reg) : w.cell? ⟨q, 0, none⟩ = some (.int .i64 kd) := by rw [cell_of_row _ _ _ _ _ _ h, sumV_rule _ _ _ _ _ _ _ _ (by decide)]; rfl
theorem SumAt.c1 (h : SumAt w q kd wd pol lo tn F reg) : w.cell? ⟨q, 1, none⟩ = some (.int .i64 wd) := by rw [cell_of_row _ _ _ _ _ _ h, sumV_rule _ _ _ _ _ _ _ _ (by decide)]; rfl
theorem SumAt.c2 (h : SumAt w q kd wd pol lo tn F reg) : w.cell? ⟨q, 2, none⟩ = some (.int .u32 pol) := by rw [cell_of_row _ _ _ _ _ _ h, sumV_rule _ _ _ _ _ _ _ _ (by decide)]; rfl
theorem SumAt.c3 (h : SumAt w q kd wd pol lo tn F reg) : w.cell? ⟨q, 3, none⟩ = some (.bool lo) := by rw [cell_of_row _ _ _ _ _ _ h, sumV_rule _ _ _ _ _ _ _ _ (by decide)]; rfl
theorem SumAt.c4 (h : SumAt w q kd wd pol lo tn F reg) : w.cell? ⟨q, 4, none⟩ = some (.int .u32 tn) := by rw [cell_of_row _ _ _ _ _ _ h, sumV_rule _ _ _ _ _ _ _ _ (by decide)]; rfl
theorem SumAt.tab (h : SumAt w q kd wd pol lo tn F reg) (j : Nat) (hj : j < 256) : w.cell? ⟨q, 5 + j, none⟩ = some (.int .u32 (F j : Int)) := by rw [cell_of_row _ _ _ _ _ _ h, sumV_tab _ _ _ _ _ _ _ _ hj]
theorem SumAt.creg (h : SumAt w q kd wd pol lo tn F reg) : w.cell? ⟨q, 261, none⟩ = some (.int .u32 (reg : Int)) := by rw [cell_of_row _ _ _ _ _ _ h, sumV_reg]
theorem SumAt.f (h : SumAt w q kd wd pol lo tn F reg) (o : Nat) : w.frozen? ⟨q, o, none⟩ = false := by unfold SumAt at h; simp [World.frozen?, h]
theorem SumAt.lt (h : SumAt w q kd wd pol lo tn F reg) : q < w.heap.size := lt_of_block h
theorem SumAt.set (h : SumAt w q kd wd pol lo tn F reg) (r : Nat) : SumAt (w.setCell ⟨q, 261, none⟩ (.int .u32 (r : Int))) q kd wd pol lo tn F r := by
  unfold SumAt at h ⊢
  rw [block_setCell _ _ _ _ _ _ h, sumV_set]
theorem SumAt.kept {w' : World} (h : SumAt w q kd wd pol lo tn F reg) (hb : w'.heap[q]? = w.heap[q]?) : SumAt w' q kd wd pol lo tn F reg := by
  unfold SumAt at h ⊢
  rw [hb]
  exact h
end

/-- Only block q may turn. -/
structure Only (q : Nat) (w w' : World) : Prop where
  os : w'.os = w.os
  tape : w'.tape = w.tape
  output : w'.output = w.output
  size : w'.heap.size = w.heap.size
  block : ∀ k, k ≠ q → w'.heap[k]? = w.heap[k]?

theorem Only.below {q B : Nat} {w w' : World} (h : Only q w w') (hq : B ≤ q) : Below B w w' := ⟨h.os, h.tape, h.output, by rw [h.size]; exact Nat.le_refl _, fun k hk => h.block k (by omega)⟩
theorem Only.set (q o n : Nat) (w : World) (v : Value) : Only q w ((w.drewN n).setCell ⟨q, o, none⟩ v) := ⟨rfl, rfl, rfl, by simp [World.setCell, World.drewN], fun k hk => by rw [Below.heap_setCell _ _ _ _ hk]; rfl⟩

theorem take_snoc3 (s : ByteArray) (i : Nat) (h : i < s.size) : (bytesOf s).take (i + 1) = (bytesOf s).take i ++ [(s[i]'h).toNat] := by
  rw [List.take_succ_eq_append_getElem (by rw [bytesOf_length]; exact h), bytesOf_get s i h]

theorem crcL_snoc (P x : BitVec 32) (s : ByteArray) (i : Nat) (h : i < s.size) : crcL P x ((bytesOf s).take (i + 1)) = byteStep P (crcL P x ((bytesOf s).take i)) (s[i]'h).toNat := by
  rw [take_snoc3 s i h, crcL_append]
  rfl

set_option maxRecDepth 20000 in
set_option maxHeartbeats 1600000 in
theorem addHigh_spec (q : Nat) (kd wd pol tn : Int) (lo : Bool) (P x : BitVec 32) (s : ByteArray) (hs : s.size ≤ 200000000000000) (w : World) (h : SumAt w q kd wd pol lo tn (fun b => (byteStep P 0#32 b).toNat) x.toNat) :
    Calls Tryd.prog 79 #[.pointer (some ⟨q, 0, none⟩), .string s] w fun e w' => e = .returned (.tuple #[]) ∧ SumAt w' q kd wd pol lo tn (fun b => (byteStep P 0#32 b).toNat) (crcL P x (bytesOf s)).toNat ∧ Only q w w' := by
  have HS : Hid (SumAt w q kd wd pol lo tn (fun b => (byteStep P 0#32 b).toNat) x.toNat) := h
  have cr := h.creg
  clear h
  go_enter Tryd.func79, Tryd.ntmps79
  go_wp2
  go_loopw [4, 12] (fun u t wr => ∃ (i n : Nat) (r : BitVec 32), i ≤ s.size ∧ wr = w.drewN n ∧ r = crcL P x ((bytesOf s).take i) ∧ u = .int .u32 (r.toNat : Int) ∧ t = .int .i64 (i : Int)) (fun _ t _ => s.size - (intOf t).toNat)
  case atStart => exact ⟨0, 0, x, Nat.zero_le _, rfl, rfl, rfl, rfl⟩
  case round =>
    obtain ⟨i, n, r, hi, rfl, hr, rfl, rfl⟩ := hrel
    by_cases hlt : i < s.size
    · have hx : (s[i]'hlt).toNat < 256 := UInt8.toNat_lt _
      have HR : Hid (byteStep P r (s[i]'hlt).toNat = crcL P x ((bytesOf s).take (i + 1))) := by
        show _ = _
        rw [crcL_snoc, ← hr]
      clear hr
      have hrl := lt32 r
      have ha := high_add P r (s[i]'hlt).toNat hx
      have hk : r.toNat / 16777216 ^^^ (s[i]'hlt).toNat < 256 := Nat.xor_lt_two_pow (n := 8) (by omega) hx
      have hix : bits .xor .u8 ((r.toNat : Int) / 16777216) ((s[i]'hlt).toNat : Int) = ((r.toNat / 16777216 ^^^ (s[i]'hlt).toNat : Nat) : Int) := by
        have e : (r.toNat : Int) / 16777216 = ((r.toNat / 16777216 : Nat) : Int) := by simp
        rw [e, u8_xor_nat _ _ (by omega) hx]
      have ct := HS.out.tab _ hk
      generalize r.toNat / 16777216 ^^^ (s[i]'hlt).toNat = k at *
      go_wp2_with fail
      go_quiet (fail)
      go_wp2
      go_roundw
      case rel => exact ⟨i + 1, n + nq, _, by omega, rfl, HR.out, rfl, by go_num⟩
      case measure => simp [intOf]; omega
    · have hie : i = s.size := by omega
      have HR : Hid (r = crcL P x (bytesOf s)) := by
        show _ = _
        rw [hr, hie, List.take_of_length_le (by rw [bytesOf_length]; exact Nat.le_refl _)]
      have cw := HS.out.creg
      have fw := HS.out.f 261
      clear hr hie
      go_wp2
      go_end0
      refine ⟨rfl, ?_, Only.set _ _ _ _ _⟩
      rw [← HR.out]
      exact (HS.out.kept (w' := w.drewN n) rfl).set _

set_option maxRecDepth 20000 in
set_option maxHeartbeats 800000 in
theorem add_high (q : Nat) (kd wd pol tn : Int) (P x : BitVec 32) (s : ByteArray) (hs : s.size ≤ 200000000000000) (w : World) (h : SumAt w q kd wd pol false tn (fun b => (byteStep P 0#32 b).toNat) x.toNat) :
    Calls Tryd.prog 67 #[.pointer (some ⟨q, 0, none⟩), .string s] w fun e w' => e = .returned (.tuple #[]) ∧ SumAt w' q kd wd pol false tn (fun b => (byteStep P 0#32 b).toNat) (crcL P x (bytesOf s)).toNat ∧ Only q w w' := by
  have HS : Hid (SumAt w q kd wd pol false tn (fun b => (byteStep P 0#32 b).toNat) x.toNat) := h
  have c3 := h.c3
  clear h
  go_enter Tryd.func67, Tryd.ntmps67
  go_wp2_with fail
  refine (addHigh_spec q kd wd pol tn false P x s hs w HS.out).mono ?_
  rintro e w1 ⟨rfl, h1, h2⟩
  have H1 : Hid (SumAt w1 q kd wd pol false tn (fun b => (byteStep P 0#32 b).toNat) (crcL P x (bytesOf s)).toNat) := h1
  have H2 : Hid (Only q w w1) := h2
  clear h1 h2
  go_wp2
  go_end0
  exact ⟨rfl, H1.out, H2.out⟩

set_option maxRecDepth 20000 in
set_option maxHeartbeats 800000 in
theorem value_spec (q : Nat) (kd wd pol tn : Int) (lo : Bool) (F : Nat → Nat) (reg v : Nat) (h0 : 0 ≤ wd) (h32 : wd ≤ 32) (hv : bits .xor .u32 (reg : Int) tn / 2 ^ (32 - wd).toNat = (v : Int)) (hl : v < 4294967296) (w : World) (h : SumAt w q kd wd pol lo tn F reg) :
    Calls Tryd.prog 68 #[.pointer (some ⟨q, 0, none⟩)] w fun e w' => e = .returned (.int .i64 (v : Int)) ∧ ∃ n, w' = w.drewN n := by
  have c1 := h.c1
  have c4 := h.c4
  have cr := h.creg
  clear h
  go_enter Tryd.func68, Tryd.ntmps68
  go_wp2_with fail
  go_quiet (fail)
  go_wp2
  go_ret
  exact ⟨rfl, _, rfl⟩

end S3
end Go.Proofs.YtjkamannjgcmiaaDoor

namespace Go.Proofs.YtjkamannjgcmiaaDoor
open Go.RowKit
set_option linter.unusedSimpArgs false
set_option linter.unusedVariables false
namespace S3
theorem xor0 (n : Nat) (h : n < 4294967296) : bits .xor .u32 (n : Int) 0 = (n : Int) := by
  have := u32_xor_nat n 0 h (by decide)
  simpa using this

theorem value_32 (q : Nat) (l : List Nat) (w : World) (h : S32 w q (crcL p32 0#32 l).toNat) : Calls Tryd.prog 68 #[.pointer (some ⟨q, 0, none⟩)] w fun e w' => e = .returned (.int .i64 (((crcL p32 0#32 l).toNat : Nat) : Int)) ∧ ∃ n, w' = w.drewN n := by
  refine value_spec q 32 32 79764919 0 false _ _ _ (by decide) (by decide) ?_ (lt32 _) w h
  rw [xor0 _ (lt32 _)]
  simp
theorem Below.drewN_right {B : Nat} {a w : World} (h : Below B a w) (n : Nat) : Below B a (w.drewN n) := ⟨h.os, h.tape, h.output, h.size, h.block⟩

end S3
end Go.Proofs.YtjkamannjgcmiaaDoor

namespace Go.Proofs.YtjkamannjgcmiaaDoor
open Go.RowKit
set_option linter.unusedSimpArgs false
set_option linter.unusedVariables false

theorem fl_bit (fl : Int) (f : Nat) (hf : f = 1 ∨ f = 2 ∨ f = 4) (h0 : 0 ≤ fl) (h7 : fl ≤ 7) : (bits BinOp.and IntKind.i64 fl (f : Int) != 0) = decide (fl / f % 2 = 1) := by
  have : fl = 0 ∨ fl = 1 ∨ fl = 2 ∨ fl = 3 ∨ fl = 4 ∨ fl = 5 ∨ fl = 6 ∨ fl = 7 := by omega
  rcases this with rfl | rfl | rfl | rfl | rfl | rfl | rfl | rfl <;> rcases hf with rfl | rfl | rfl <;> decide +kernel
set_option maxRecDepth 20000 in
set_option maxHeartbeats 1600000 in
theorem j_has (x : Sh) (ao : Option Addr) (c : Nat) (f : Nat) (hf : f = 1 ∨ f = 2 ∨ f = 4) (h0 : 0 ≤ x.p.fl) (h7 : x.p.fl ≤ 7) (w : World) : Calls Tryd.prog 56 #[shV x ao c, .int .i64 (f : Int)] w fun e w' => e = .returned (.bool (decide (x.p.fl / f % 2 = 1))) ∧ Below w.heap.size w w' := by
  have HX := hid (fl_bit x.p.fl f hf h0 h7)
  obtain ⟨⟨fl, se, sq, gr, la⟩, bd⟩ := x
  dsimp only at *
  rw [← HX.out]
  clear HX hf h0 h7
  go_enter Tryd.func56, Tryd.ntmps56
  go_wp2_with fail
  go_ret
  exact ⟨rfl, below_new _ _⟩
/-- What a page's numbers may be. -/
abbrev mayOk (p : Pg) : Prop := 0 ≤ p.fl ∧ p.fl ≤ 7 ∧ -1 ≤ p.gr ∧ 0 ≤ p.se ∧ p.se ≤ 4294967295 ∧ p.la.length ≤ 255
set_option maxRecDepth 20000 in
set_option maxHeartbeats 1600000 in
theorem j_mayBe (p : Pg) (ao : Option Addr) (c : Nat) (w : World) : Calls Tryd.prog 55 #[pgV p ao c] w fun e w' => e = .returned (.bool (decide (mayOk p))) ∧ Below w.heap.size w w' := by
  obtain ⟨fl, se, sq, gr, la⟩ := p
  by_cases h0 : 0 ≤ fl
  · by_cases h1 : fl ≤ 7
    · by_cases h2 : -1 ≤ gr
      · by_cases h3 : 0 ≤ se
        · by_cases h4 : se ≤ 4294967295
          · by_cases h5 : la.length ≤ 255
            · have HD : Hid (decide (mayOk ⟨fl, se, sq, gr, la⟩) = true) := decide_eq_true ⟨h0, h1, h2, h3, h4, h5⟩
              rw [HD.out]
              clear HD
              have h6 : (la.length : Int) ≤ 255 := by omega
              go_enter Tryd.func55, Tryd.ntmps55
              go_wp2_with fail
              go_ret
              exact ⟨rfl, below_new _ _⟩
            · have HD : Hid (decide (mayOk ⟨fl, se, sq, gr, la⟩) = false) := decide_eq_false (fun e => h5 e.2.2.2.2.2)
              rw [HD.out]
              clear HD
              replace h5 := Nat.not_le.1 h5
              have h6 : decide ((la.length : Int) ≤ 255) = false := decide_eq_false (by omega)
              go_enter Tryd.func55, Tryd.ntmps55
              go_wp2_with fail
              go_ret
              exact ⟨rfl, below_new _ _⟩
          · have HD : Hid (decide (mayOk ⟨fl, se, sq, gr, la⟩) = false) := decide_eq_false (fun e => h4 e.2.2.2.2.1)
            rw [HD.out]
            clear HD
            replace h4 := Int.not_le.1 h4
            go_enter Tryd.func55, Tryd.ntmps55
            go_wp2_with fail
            go_ret
            exact ⟨rfl, below_new _ _⟩
        · have HD : Hid (decide (mayOk ⟨fl, se, sq, gr, la⟩) = false) := decide_eq_false (fun e => h3 e.2.2.2.1)
          rw [HD.out]
          clear HD
          replace h3 := Int.not_le.1 h3
          go_enter Tryd.func55, Tryd.ntmps55
          go_wp2_with fail
          go_ret
          exact ⟨rfl, below_new _ _⟩
      · have HD : Hid (decide (mayOk ⟨fl, se, sq, gr, la⟩) = false) := decide_eq_false (fun e => h2 e.2.2.1)
        rw [HD.out]
        clear HD
        replace h2 := Int.not_le.1 h2
        go_enter Tryd.func55, Tryd.ntmps55
        go_wp2_with fail
        go_ret
        exact ⟨rfl, below_new _ _⟩
    · have HD : Hid (decide (mayOk ⟨fl, se, sq, gr, la⟩) = false) := decide_eq_false (fun e => h1 e.2.1)
      rw [HD.out]
      clear HD
      replace h1 := Int.not_le.1 h1
      go_enter Tryd.func55, Tryd.ntmps55
      go_wp2_with fail
      go_ret
      exact ⟨rfl, below_new _ _⟩
  · have HD : Hid (decide (mayOk ⟨fl, se, sq, gr, la⟩) = false) := decide_eq_false (fun e => h0 e.1)
    rw [HD.out]
    clear HD
    replace h0 := Int.not_le.1 h0
    go_enter Tryd.func55, Tryd.ntmps55
    go_wp2_with fail
    go_ret
    exact ⟨rfl, below_new _ _⟩

set_option maxRecDepth 20000 in
set_option maxHeartbeats 1600000 in
theorem j_sumOf (a b : ByteArray) (ha : a.size ≤ 200000000000000) (hb : b.size ≤ 200000000000000) (w : World) (hR : S3.RulesAt w) : Calls Tryd.prog 51 #[.string a, .string b] w fun e w' => e = .returned (.string (textOf (S2.lowL (oggN (bytesOf a ++ zer4 ++ bytesOf b)) 4))) ∧ Below w.heap.size w w' := by
  have HA := hid ha
  have HB := hid hb
  clear ha hb
  obtain ⟨v, hv⟩ : ∃ v, oggN (bytesOf a ++ zer4 ++ bytesOf b) = v := ⟨_, rfl⟩
  rw [hv]
  obtain ⟨R, hr⟩ : ∃ R, textOf (S2.lowL v 4) = R := ⟨_, rfl⟩
  rw [hr]
  have HVR := hid (show _ ∧ _ from ⟨hv, hr⟩)
  clear hv hr
  have kn := S3.new_32 w hR
  clear hR
  have k0 := fun w => j_le 0 4 (by omega) (by omega) (by omega) w
  have h0 : bytesOf (textOf (S2.lowL 0 4)) = zer4 := by decide +kernel
  have K0 := hid k0
  have H0 := hid h0
  have HZ : Hid ((textOf (S2.lowL 0 4)).size ≤ 200000000000000) := by show _ ≤ _; decide +kernel
  generalize textOf (S2.lowL 0 4) = Z at *
  clear k0 h0
  go_enter Tryd.func51, Tryd.ntmps51
  go_wp2_with fail
  refine kn.mono ?_
  rintro e w1 ⟨q, rfl, hq, hS, hb⟩
  have H1 : Hid (w.heap.size ≤ q ∧ Below w.heap.size w w1) := ⟨hq, hb⟩
  have k1 := S3.add_high q 32 32 79764919 0 p32 0#32 a HA.out w1 hS
  clear hq hS hb kn
  go_wp2_with fail
  refine k1.mono ?_
  rintro e w2 ⟨rfl, hS, ho⟩
  have H2 : Hid (Below w.heap.size w w2 ∧ S3.SumAt w2 q 32 32 79764919 false 0 (fun b => (byteStep p32 0#32 b).toNat) (crcL p32 0#32 (bytesOf a)).toNat) := ⟨H1.out.2.trans (ho.below H1.out.1), hS⟩
  clear hS ho k1
  have k0 := K0.out w2
  go_wp2_with fail
  refine k0.mono ?_
  rintro e w3 ⟨rfl, hb⟩
  have H3 : Hid (Below w.heap.size w w3 ∧ S3.SumAt w3 q 32 32 79764919 false 0 (fun b => (byteStep p32 0#32 b).toNat) (crcL p32 0#32 (bytesOf a)).toNat) := ⟨below_on H2.out.1 H2.out.1.size hb, H2.out.2.kept (hb.block _ H2.out.2.lt)⟩
  clear hb k0
  have k1 := S3.add_high q 32 32 79764919 0 p32 _ Z HZ.out w3 H3.out.2
  go_wp2_with fail
  refine k1.mono ?_
  rintro e w4 ⟨rfl, hS, ho⟩
  have H4 : Hid (Below w.heap.size w w4 ∧ S3.SumAt w4 q 32 32 79764919 false 0 (fun b => (byteStep p32 0#32 b).toNat) (crcL p32 (crcL p32 0#32 (bytesOf a)) (bytesOf Z)).toNat) := ⟨H3.out.1.trans (ho.below H1.out.1), hS⟩
  clear hS ho k1
  have k1 := S3.add_high q 32 32 79764919 0 p32 _ b HB.out w4 H4.out.2
  go_wp2_with fail
  refine k1.mono ?_
  rintro e w5 ⟨rfl, hS, ho⟩
  rw [H0.out, ← crcL_append, ← crcL_append] at hS
  have HO : Hid (v = (crcL p32 0#32 (bytesOf a ++ (zer4 ++ bytesOf b))).toNat) := by
    show _ = _
    rw [← HVR.out.1]
    rw [List.append_assoc]
    rfl
  have kv := S3.value_32 q _ w5 hS
  rw [← HO.out] at kv
  have H5 : Hid (Below w.heap.size w w5) := H4.out.1.trans (ho.below H1.out.1)
  have HLT : Hid (v < 4294967296) := by
    show _ < _
    rw [← HVR.out.1]
    exact ogg_lt _
  clear hS ho k1 HO
  go_wp2_with fail
  refine kv.mono ?_
  rintro e w6 ⟨rfl, n, rfl⟩
  have kl := j_le v 4 (by omega) (by omega) (by have := HLT.out; omega) (w5.drewN n)
  rw [HVR.out.2] at kl
  go_wp2_with fail
  refine kl.mono ?_
  rintro e w7 ⟨rfl, hb⟩
  have H6 : Hid (Below w.heap.size w w7) := below_on (Below.drewN H5.out n) (Below.drewN H5.out n).size hb
  clear hb kl kv
  go_wp2_with fail
  go_ret
  exact ⟨rfl, H6.out⟩

end Go.Proofs.YtjkamannjgcmiaaDoor
