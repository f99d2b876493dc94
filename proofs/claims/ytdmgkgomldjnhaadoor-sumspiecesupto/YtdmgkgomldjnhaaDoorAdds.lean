/- Own text: the walks of a sum's methods 'addHigh', 'addLow', 'Add', 'Value', and of 'sumOf'. -/
import Derived.Test.YtdmgkgomldjnhaaDoorNew
namespace Go.Proofs.YtdmgkgomldjnhaaDoor
open Go.RowKit
set_option linter.unusedSimpArgs false
set_option linter.unusedVariables false

section
variable {w : World} {q : Nat} {kd wd pol : Int} {lo : Bool} {tn : Int} {F : Nat → Nat} {reg : Nat}
theorem SumAt.c0 (h : SumAt w q kd wd pol lo tn F reg) : w.cell? ⟨q, 0, none⟩ = some (.int .i64 kd) := by rw [cell_of_row _ _ _ _ _ _ h, sumV_rule _ _ _ _ _ _ _ _ (by decide)]; rfl
theorem SumAt.c1 (h : SumAt w q kd wd pol lo tn F reg) : w.cell? ⟨q, 1, none⟩ = some (.int .i64 wd) := by rw [cell_of_row _ _ _ _ _ _ h, sumV_rule _ _ _ _ _ _ _ _ (by decide)]; rfl
theorem SumAt.c2 (h : SumAt w q kd wd pol lo tn F reg) : w.cell? ⟨q, 2, none⟩ = some (.int .u32 pol) := by rw [cell_of_row _ _ _ _ _ _ h, sumV_rule _ _ _ _ _ _ _ _ (by decide)]; rfl
theorem SumAt.c3 (h : SumAt w q kd wd pol lo tn F reg) : w.cell? ⟨q, 3, none⟩ = some (.bool lo) := by rw [cell_of_row _ _ _ _ _ _ h, sumV_rule _ _ _ _ _ _ _ _ (by decide)]; rfl
theorem SumAt.c4 (h : SumAt w q kd wd pol lo tn F reg) : w.cell? ⟨q, 4, none⟩ = some (.int .u32 tn) := by rw [cell_of_row _ _ _ _ _ _ h, sumV_rule _ _ _ _ _ _ _ _ (by decide)]; rfl
theorem SumAt.tab (h : SumAt w q kd wd pol lo tn F reg) (j : Nat) (hj : j < 256) : w.cell? ⟨q, 5 + j, none⟩ = some (.int .u32 (F j : Int)) := by rw [cell_of_row _ _ _ _ _ _ h, sumV_tab _ _ _ _ _ _ _ _ hj]
theorem SumAt.creg (h : SumAt w q kd wd pol lo tn F reg) : w.cell? ⟨q, 261, none⟩ = some (.int .u32 (reg : Int)) := by rw [cell_of_row _ _ _ _ _ _ h, sumV_reg]
theorem SumAt.f (h : SumAt w q kd wd pol lo tn F reg) (o : Nat) : w.frozen? ⟨q, o, none⟩ = false := by unfold SumAt at h; simp [World.frozen?, h]
theorem SumAt.lt (h : SumAt w q kd wd pol lo tn F reg) : q < w.heap.size := lt_of_block h
theorem SumAt.set (h : SumAt w q kd wd pol lo tn F reg) (r : Nat) : SumAt (w.setCell ⟨q, 261, none⟩ (.int .u32 (r : Int))) q kd wd pol lo tn F r := by
  unfold SumAt at h ⊢
  rw [block_setCell _ _ _ _ _ _ h, sumV_set]
theorem SumAt.kept {w' : World} (h : SumAt w q kd wd pol lo tn F reg) (hb : w'.heap[q]? = w.heap[q]?) : SumAt w' q kd wd pol lo tn F reg := by
  unfold SumAt at h ⊢
  rw [hb]
  exact h
end

/-- Only block q may turn. -/
structure Only (q : Nat) (w w' : World) : Prop where
  os : w'.os = w.os
  tape : w'.tape = w.tape
  output : w'.output = w.output
  size : w'.heap.size = w.heap.size
  block : ∀ k, k ≠ q → w'.heap[k]? = w.heap[k]?

theorem Only.below {q B : Nat} {w w' : World} (h : Only q w w') (hq : B ≤ q) : Below B w w' := ⟨h.os, h.tape, h.output, by rw [h.size]; exact Nat.le_refl _, fun k hk => h.block k (by omega)⟩
theorem Only.set (q o n : Nat) (w : World) (v : Value) : Only q w ((w.drewN n).setCell ⟨q, o, none⟩ v) := ⟨rfl, rfl, rfl, by simp [World.setCell, World.drewN], fun k hk => by rw [Below.heap_setCell _ _ _ _ hk]; rfl⟩

theorem take_snoc (s : ByteArray) (i : Nat) (h : i < s.size) : (bytesOf s).take (i + 1) = (bytesOf s).take i ++ [(s[i]'h).toNat] := by
  rw [List.take_succ_eq_append_getElem (by rw [bytesOf_length]; exact h), bytesOf_get s i h]

theorem crcL_snoc (P x : BitVec 32) (s : ByteArray) (i : Nat) (h : i < s.size) : crcL P x ((bytesOf s).take (i + 1)) = byteStep P (crcL P x ((bytesOf s).take i)) (s[i]'h).toNat := by
  rw [take_snoc s i h, crcL_append]
  rfl

set_option maxRecDepth 20000 in
set_option maxHeartbeats 1600000 in
theorem addHigh_spec (q : Nat) (kd wd pol tn : Int) (lo : Bool) (P x : BitVec 32) (s : ByteArray) (hs : s.size ≤ 200000000000000) (w : World) (h : SumAt w q kd wd pol lo tn (fun b => (byteStep P 0#32 b).toNat) x.toNat) :
    Calls Tryd.prog 28 #[.pointer (some ⟨q, 0, none⟩), .string s] w fun e w' => e = .returned (.tuple #[]) ∧ SumAt w' q kd wd pol lo tn (fun b => (byteStep P 0#32 b).toNat) (crcL P x (bytesOf s)).toNat ∧ Only q w w' := by
  have HS : Hid (SumAt w q kd wd pol lo tn (fun b => (byteStep P 0#32 b).toNat) x.toNat) := h
  have cr := h.creg
  clear h
  go_enter Tryd.func28, Tryd.ntmps28
  go_wp2
  go_loopw [4, 12] (fun u t wr => ∃ (i n : Nat) (r : BitVec 32), i ≤ s.size ∧ wr = w.drewN n ∧ r = crcL P x ((bytesOf s).take i) ∧ u = .int .u32 (r.toNat : Int) ∧ t = .int .i64 (i : Int)) (fun _ t _ => s.size - (intOf t).toNat)
  case atStart => exact ⟨0, 0, x, Nat.zero_le _, rfl, rfl, rfl, rfl⟩
  case round =>
    obtain ⟨i, n, r, hi, rfl, hr, rfl, rfl⟩ := hrel
    by_cases hlt : i < s.size
    · have hx : (s[i]'hlt).toNat < 256 := UInt8.toNat_lt _
      have HR : Hid (byteStep P r (s[i]'hlt).toNat = crcL P x ((bytesOf s).take (i + 1))) := by
        show _ = _
        rw [crcL_snoc, ← hr]
      clear hr
      have hrl := lt32 r
      have ha := high_add P r (s[i]'hlt).toNat hx
      have hk : r.toNat / 16777216 ^^^ (s[i]'hlt).toNat < 256 := Nat.xor_lt_two_pow (n := 8) (by omega) hx
      have hix : bits .xor .u8 ((r.toNat : Int) / 16777216) ((s[i]'hlt).toNat : Int) = ((r.toNat / 16777216 ^^^ (s[i]'hlt).toNat : Nat) : Int) := by
        have e : (r.toNat : Int) / 16777216 = ((r.toNat / 16777216 : Nat) : Int) := by simp
        rw [e, u8_xor_nat _ _ (by omega) hx]
      have ct := HS.out.tab _ hk
      generalize r.toNat / 16777216 ^^^ (s[i]'hlt).toNat = k at *
      go_wp2_with fail
      go_quiet (fail)
      go_wp2
      go_roundw
      case rel => exact ⟨i + 1, n + nq, _, by omega, rfl, HR.out, rfl, by go_num⟩
      case measure => simp [intOf]; omega
    · have hie : i = s.size := by omega
      have HR : Hid (r = crcL P x (bytesOf s)) := by
        show _ = _
        rw [hr, hie, List.take_of_length_le (by rw [bytesOf_length]; exact Nat.le_refl _)]
      have cw := HS.out.creg
      have fw := HS.out.f 261
      clear hr hie
      go_wp2
      go_end0
      refine ⟨rfl, ?_, Only.set _ _ _ _ _⟩
      rw [← HR.out]
      exact (HS.out.kept (w' := w.drewN n) rfl).set _

theorem crcR_snoc (P x : BitVec 32) (s : ByteArray) (i : Nat) (h : i < s.size) : crcR P x ((bytesOf s).take (i + 1)) = byteR P (crcR P x ((bytesOf s).take i)) (s[i]'h).toNat := by
  rw [take_snoc s i h, crcR_append]
  rfl

set_option maxRecDepth 20000 in
set_option maxHeartbeats 1600000 in
theorem addLow_spec (q : Nat) (kd wd pol tn : Int) (lo : Bool) (P x : BitVec 32) (s : ByteArray) (hs : s.size ≤ 200000000000000) (w : World) (h : SumAt w q kd wd pol lo tn (fun b => (r8 P (BitVec.ofNat 32 b)).toNat) x.toNat) :
    Calls Tryd.prog 27 #[.pointer (some ⟨q, 0, none⟩), .string s] w fun e w' => e = .returned (.tuple #[]) ∧ SumAt w' q kd wd pol lo tn (fun b => (r8 P (BitVec.ofNat 32 b)).toNat) (crcR P x (bytesOf s)).toNat ∧ Only q w w' := by
  have HS : Hid (SumAt w q kd wd pol lo tn (fun b => (r8 P (BitVec.ofNat 32 b)).toNat) x.toNat) := h
  have cr := h.creg
  clear h
  go_enter Tryd.func27, Tryd.ntmps27
  go_wp2
  go_loopw [4, 12] (fun u t wr => ∃ (i n : Nat) (r : BitVec 32), i ≤ s.size ∧ wr = w.drewN n ∧ r = crcR P x ((bytesOf s).take i) ∧ u = .int .u32 (r.toNat : Int) ∧ t = .int .i64 (i : Int)) (fun _ t _ => s.size - (intOf t).toNat)
  case atStart => exact ⟨0, 0, x, Nat.zero_le _, rfl, rfl, rfl, rfl⟩
  case round =>
    obtain ⟨i, n, r, hi, rfl, hr, rfl, rfl⟩ := hrel
    by_cases hlt : i < s.size
    · have hx : (s[i]'hlt).toNat < 256 := UInt8.toNat_lt _
      have HR : Hid (byteR P r (s[i]'hlt).toNat = crcR P x ((bytesOf s).take (i + 1))) := by
        show _ = _
        rw [crcR_snoc, ← hr]
      clear hr
      have hrl := lt32 r
      have ha := low_add P r (s[i]'hlt).toNat hx
      have hk : r.toNat % 256 ^^^ (s[i]'hlt).toNat < 256 := Nat.xor_lt_two_pow (n := 8) (by omega) hx
      have hix : bits .xor .u8 ((r.toNat : Int) % 256) ((s[i]'hlt).toNat : Int) = ((r.toNat % 256 ^^^ (s[i]'hlt).toNat : Nat) : Int) := by
        have e : (r.toNat : Int) % 256 = ((r.toNat % 256 : Nat) : Int) := by simp
        rw [e, u8_xor_nat _ _ (by omega) hx]
      have ct := HS.out.tab _ hk
      generalize r.toNat % 256 ^^^ (s[i]'hlt).toNat = k at *
      go_wp2_with fail
      go_quiet (fail)
      go_wp2
      go_roundw
      case rel => exact ⟨i + 1, n + nq, _, by omega, rfl, HR.out, rfl, by go_num⟩
      case measure => simp [intOf]; omega
    · have hie : i = s.size := by omega
      have HR : Hid (r = crcR P x (bytesOf s)) := by
        show _ = _
        rw [hr, hie, List.take_of_length_le (by rw [bytesOf_length]; exact Nat.le_refl _)]
      have cw := HS.out.creg
      have fw := HS.out.f 261
      clear hr hie
      go_wp2
      go_end0
      refine ⟨rfl, ?_, Only.set _ _ _ _ _⟩
      rw [← HR.out]
      exact (HS.out.kept (w' := w.drewN n) rfl).set _

set_option maxRecDepth 20000 in
set_option maxHeartbeats 800000 in
theorem add_high (q : Nat) (kd wd pol tn : Int) (P x : BitVec 32) (s : ByteArray) (hs : s.size ≤ 200000000000000) (w : World) (h : SumAt w q kd wd pol false tn (fun b => (byteStep P 0#32 b).toNat) x.toNat) :
    Calls Tryd.prog 20 #[.pointer (some ⟨q, 0, none⟩), .string s] w fun e w' => e = .returned (.tuple #[]) ∧ SumAt w' q kd wd pol false tn (fun b => (byteStep P 0#32 b).toNat) (crcL P x (bytesOf s)).toNat ∧ Only q w w' := by
  have HS : Hid (SumAt w q kd wd pol false tn (fun b => (byteStep P 0#32 b).toNat) x.toNat) := h
  have c3 := h.c3
  clear h
  go_enter Tryd.func20, Tryd.ntmps20
  go_wp2_with fail
  refine (addHigh_spec q kd wd pol tn false P x s hs w HS.out).mono ?_
  rintro e w1 ⟨rfl, h1, h2⟩
  have H1 : Hid (SumAt w1 q kd wd pol false tn (fun b => (byteStep P 0#32 b).toNat) (crcL P x (bytesOf s)).toNat) := h1
  have H2 : Hid (Only q w w1) := h2
  clear h1 h2
  go_wp2
  go_end0
  exact ⟨rfl, H1.out, H2.out⟩

set_option maxRecDepth 20000 in
set_option maxHeartbeats 800000 in
theorem add_low (q : Nat) (kd wd pol tn : Int) (P x : BitVec 32) (s : ByteArray) (hs : s.size ≤ 200000000000000) (w : World) (h : SumAt w q kd wd pol true tn (fun b => (r8 P (BitVec.ofNat 32 b)).toNat) x.toNat) :
    Calls Tryd.prog 20 #[.pointer (some ⟨q, 0, none⟩), .string s] w fun e w' => e = .returned (.tuple #[]) ∧ SumAt w' q kd wd pol true tn (fun b => (r8 P (BitVec.ofNat 32 b)).toNat) (crcR P x (bytesOf s)).toNat ∧ Only q w w' := by
  have HS : Hid (SumAt w q kd wd pol true tn (fun b => (r8 P (BitVec.ofNat 32 b)).toNat) x.toNat) := h
  have c3 := h.c3
  clear h
  go_enter Tryd.func20, Tryd.ntmps20
  go_wp2_with fail
  refine (addLow_spec q kd wd pol tn true P x s hs w HS.out).mono ?_
  rintro e w1 ⟨rfl, h1, h2⟩
  have H1 : Hid (SumAt w1 q kd wd pol true tn (fun b => (r8 P (BitVec.ofNat 32 b)).toNat) (crcR P x (bytesOf s)).toNat) := h1
  have H2 : Hid (Only q w w1) := h2
  clear h1 h2
  go_wp2
  go_end0
  exact ⟨rfl, H1.out, H2.out⟩

set_option maxRecDepth 20000 in
set_option maxHeartbeats 800000 in
theorem value_spec (q : Nat) (kd wd pol tn : Int) (lo : Bool) (F : Nat → Nat) (reg v : Nat) (h0 : 0 ≤ wd) (h32 : wd ≤ 32) (hv : bits .xor .u32 (reg : Int) tn / 2 ^ (32 - wd).toNat = (v : Int)) (hl : v < 4294967296) (w : World) (h : SumAt w q kd wd pol lo tn F reg) :
    Calls Tryd.prog 19 #[.pointer (some ⟨q, 0, none⟩)] w fun e w' => e = .returned (.int .i64 (v : Int)) ∧ ∃ n, w' = w.drewN n := by
  have c1 := h.c1
  have c4 := h.c4
  have cr := h.creg
  clear h
  go_enter Tryd.func19, Tryd.ntmps19
  go_wp2_with fail
  go_quiet (fail)
  go_wp2
  go_ret
  exact ⟨rfl, _, rfl⟩

end Go.Proofs.YtdmgkgomldjnhaaDoor
