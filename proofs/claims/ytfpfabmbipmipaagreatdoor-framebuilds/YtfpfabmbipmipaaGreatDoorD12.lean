/- Own text. -/
import Derived.Test.YtfpfabmbipmipaaGreatDoorD11
import Derived.Deep.AppendLies
import Derived.BigRegion
set_option linter.unusedSimpArgs false
set_option linter.unusedVariables false
set_option maxRecDepth 20000
set_option maxHeartbeats 12800000
namespace Go.Proofs.YtfpfabmbipmipaaGreatDoor
open Go.RowKit
namespace S3
def sumV (kd wd pol : Int) (lo : Bool) (tn : Int) (F : Nat -> Nat) (reg : Nat) : Array Value := ruleV kd wd pol lo tn ++ tabV F 256 ++ #[.int .u32 (reg : Int)]
theorem sumV_size (kd wd pol : Int) (lo : Bool) (tn : Int) (F : Nat -> Nat) (reg : Nat) : (sumV kd wd pol lo tn F reg).size = 262 := by
 simp [sumV, tabV_size, ruleV]
theorem sumV_rule (kd wd pol : Int) (lo : Bool) (tn : Int) (F : Nat -> Nat) (reg j : Nat) (h : j < 5) : (sumV kd wd pol lo tn F reg)[j]? = (ruleV kd wd pol lo tn)[j]? := by
 unfold sumV
 rw [Array.append_assoc, Array.getElem?_append_left (by simpa using h)]
theorem sumV_tab (kd wd pol : Int) (lo : Bool) (tn : Int) (F : Nat -> Nat) (reg j : Nat) (h : j < 256) : (sumV kd wd pol lo tn F reg)[5 + j]? = some (.int .u32 (F j : Int)) := by
 unfold sumV
 rw [Array.append_assoc, Array.getElem?_append_right (by simp), Array.getElem?_append_left (by simp [tabV_size]; omega)]
 have e : 5 + j - (ruleV kd wd pol lo tn).size = j := by simp
 rw [e, tabV_get F 256 j h, if_pos h]
theorem sumV_reg (kd wd pol : Int) (lo : Bool) (tn : Int) (F : Nat -> Nat) (reg : Nat) : (sumV kd wd pol lo tn F reg)[261]? = some (.int .u32 (reg : Int)) := by
 unfold sumV
 rw [Array.getElem?_append_right (by simp [tabV_size])]
 simp [tabV_size]
theorem sumV_set (kd wd pol : Int) (lo : Bool) (tn : Int) (F : Nat -> Nat) (reg r : Nat) : (sumV kd wd pol lo tn F reg).setIfInBounds 261 (.int .u32 (r : Int)) = sumV kd wd pol lo tn F r := by
 apply Array.ext_getElem?
 intro j
 rw [Array.getElem?_setIfInBounds, sumV_size]
 by_cases hj : 261 = j
 ·subst hj
  rw [if_pos rfl, if_pos (by decide), sumV_reg]
 ·rw [if_neg hj]
  by_cases h5 : j < 5
  ·rw [sumV_rule _ _ _ _ _ _ _ _ h5, sumV_rule _ _ _ _ _ _ _ _ h5]
  ·by_cases h6 : j < 261
   ·obtain ⟨k, rfl⟩ : ∃ k, j = 5 + k := ⟨j - 5, by omega⟩
    rw [sumV_tab _ _ _ _ _ _ _ _ (by omega), sumV_tab _ _ _ _ _ _ _ _ (by omega)]
   ·rw [Array.getElem?_eq_none (by rw [sumV_size]; omega), Array.getElem?_eq_none (by rw [sumV_size]; omega)]
theorem zero201 : (Tryz.prog.info? 201).map (fun i => (i.zero, i.size)) = some (some (.agg (#[.int .i64 0, .int .i64 0, .int .u32 0, .bool false, .int .u32 0] ++ Array.replicate 257 (.int .u32 0))), 262) := by kernel_rfl
theorem fold_row (o : Nat) : ∀ (l : List Value) (n : Nat) (base : Array Value), o + n + l.length <= base.size -> ∀ j,
  ((l.zipIdx n).foldl (fun cs (x : Value × Nat) => cs.setIfInBounds (o + x.snd) x.fst) base)[j]? = (if o + n <= j /\ j < o + n + l.length then l[j - (o + n)]? else base[j]?)
 | [], n, base, h, j => by
  rw [if_neg (by simp)]
  rfl
 | v :: t, n, base, h, j => by
  rw [List.length_cons] at h;have ih := fold_row o t (n + 1) (base.setIfInBounds (o + n) v) (by rw [Array.size_setIfInBounds]; omega) j
  rw [List.zipIdx_cons, List.foldl_cons, ih, List.length_cons, Array.getElem?_setIfInBounds];by_cases hj : o + n = j
  ·subst hj
   rw [if_neg (by omega), if_pos rfl, if_pos (by omega), if_pos (by omega)]
   simp
  ·rw [if_neg hj]
   by_cases hin : o + (n + 1) <= j /\ j < o + (n + 1) + t.length
   ·rw [if_pos hin, if_pos (by omega)]
    have e : j - (o + n) = j - (o + (n + 1)) + 1 := by omega
    rw [e, List.getElem?_cons_succ]
   ·rw [if_neg hin, if_neg (by omega)]
theorem built_sum (kd wd pol : Int) (lo : Bool) (tn : Int) (F : Nat -> Nat) (r : Nat) (hr : tn = (r : Int)) (Z : Array Value) (hZ : Z.size = 262) :
  (Array.foldl (fun cs (x : Value × Nat) => cs.setIfInBounds (5 + x.snd) x.fst) (((((Z.setIfInBounds 0 (.int .i64 kd)).setIfInBounds 1 (.int .i64 wd)).setIfInBounds 2 (.int .u32 pol)).setIfInBounds 3 (.bool lo)).setIfInBounds 4 (.int .u32 tn)) (tabV F 256).zipIdx 0 256).setIfInBounds 261 (.int .u32 tn)
   = sumV kd wd pol lo tn F r /\
  (Array.foldl (fun cs (x : Value × Nat) => cs.setIfInBounds (5 + x.snd) x.fst) (((((Z.setIfInBounds 0 (.int .i64 kd)).setIfInBounds 1 (.int .i64 wd)).setIfInBounds 2 (.int .u32 pol)).setIfInBounds 3 (.bool lo)).setIfInBounds 4 (.int .u32 tn)) (tabV F 256).zipIdx 0 256).size = 262 := by
 generalize hB : (((((Z.setIfInBounds 0 (.int .i64 kd)).setIfInBounds 1 (.int .i64 wd)).setIfInBounds 2 (.int .u32 pol)).setIfInBounds 3 (.bool lo)).setIfInBounds 4 (.int .u32 tn)) = B
 have hBs : B.size = 262 := by
  rw [<- hB];simp [hZ]
 have hfold : Array.foldl (fun cs (x : Value × Nat) => cs.setIfInBounds (5 + x.snd) x.fst) B (tabV F 256).zipIdx 0 256 = ((tabV F 256).toList.zipIdx 0).foldl (fun cs (x : Value × Nat) => cs.setIfInBounds (5 + x.snd) x.fst) B := by
  have e : (tabV F 256).zipIdx.size = 256 := by rw [Array.size_zipIdx, tabV_size]
  have h1 := Array.foldl_toList (xs := (tabV F 256).zipIdx) (fun cs (x : Value × Nat) => cs.setIfInBounds (5 + x.snd) x.fst) (init := B);rw [e, Array.toList_zipIdx] at h1;exact h1.symm
 rw [hfold]
 have hget := fold_row 5 (tabV F 256).toList 0 B (by rw [hBs, Array.length_toList, tabV_size]; decide)
 generalize hM : ((tabV F 256).toList.zipIdx 0).foldl (fun cs (x : Value × Nat) => cs.setIfInBounds (5 + x.snd) x.fst) B = M at hget ⊢
 rw [Array.length_toList, tabV_size] at hget
 have hMs : M.size = 262 := by
  apply Nat.le_antisymm
  ·apply Nat.le_of_not_lt
   intro hlt;have := hget 262;rw [if_neg (by omega), Array.getElem?_eq_none (xs := B) (by omega)] at this
   have h2 : M[262]? = some M[262] := Array.getElem?_eq_getElem hlt;rw [h2] at this;cases this
  ·apply Nat.le_of_not_lt
   intro hlt;have := hget 261;rw [if_neg (by omega), Array.getElem?_eq_none (by omega)] at this
   have h2 : B[261]? = some (B[261]'(by omega)) := Array.getElem?_eq_getElem (by omega)
   rw [h2] at this;cases this
 refine ⟨?_, hMs⟩
 apply Array.ext_getElem?
 intro j
 rw [Array.getElem?_setIfInBounds, hMs]
 by_cases hj : 261 = j
 ·subst hj
  rw [if_pos rfl, if_pos (by decide), sumV_reg, hr]
 ·rw [if_neg hj, hget]
  by_cases h5 : j < 5
  ·rw [if_neg (by omega), sumV_rule _ _ _ _ _ _ _ _ h5, <- hB]
   rcases j with _ | _ | _ | _ | _ | j
   ·simp [Array.getElem?_setIfInBounds, hZ, ruleV]
   ·simp [Array.getElem?_setIfInBounds, hZ, ruleV]
   ·simp [Array.getElem?_setIfInBounds, hZ, ruleV]
   ·simp [Array.getElem?_setIfInBounds, hZ, ruleV]
   ·simp [Array.getElem?_setIfInBounds, hZ, ruleV]
   ·omega
  ·by_cases h6 : j < 261
   ·obtain ⟨k, rfl⟩ : ∃ k, j = 5 + k := ⟨j - 5, by omega⟩
    rw [if_pos (by omega), sumV_tab _ _ _ _ _ _ _ _ (by omega)]
    have e : 5 + k - (5 + 0) = k := by omega
    rw [e, Array.getElem?_toList, tabV_get F 256 k (by omega), if_pos (by omega)]
   ·rw [if_neg (by omega), Array.getElem?_eq_none (by omega), Array.getElem?_eq_none (by rw [sumV_size]; omega)]
theorem new_spec (k kd wd pol tn : Int) (lo : Bool) (T : Array Value) (C : Array Value) (hC : C.size = 262)
  (hrule : ∀ w, RulesAt w → Calls Tryz.prog 163 #[.int .i64 k] w fun e w' => e = .returned (.tuple #[.agg (ruleV kd wd pol lo tn), .bool true]) ∧ Below w.heap.size w w')
  (htab : ∀ w, Calls Tryz.prog 164 #[.agg (ruleV kd wd pol lo tn)] w fun e w' => e = .returned (.agg T) ∧ Below w.heap.size w w')
  (Z M : Array Value) (hz : ∀ w, (zeroValue 201).run Tryz.prog w = .ok (.agg Z) w) (hZ : Z.size = 262) (hT : T.size = 256)
  (hM : Array.foldl (fun cs (x : Value × Nat) => cs.setIfInBounds (5 + x.snd) x.fst) (((((Z.setIfInBounds 0 (.int .i64 kd)).setIfInBounds 1 (.int .i64 wd)).setIfInBounds 2 (.int .u32 pol)).setIfInBounds 3 (.bool lo)).setIfInBounds 4 (.int .u32 tn)) T.zipIdx 0 256 = M)
  (hMs : M.size = 262) (hMC : M.setIfInBounds 261 (.int .u32 tn) = C)
  (w : World) (hR : RulesAt w) :
  Calls Tryz.prog 122 #[.int .i64 k] w fun e w' => ∃ q, e = .returned (.pointer (some ⟨q, 0, none⟩)) ∧ w.heap.size ≤ q ∧ w'.heap[q]? = some (.cells C 201 (0, 0)) ∧ Below w.heap.size w w' := by
 have HR : Hid (∀ w, RulesAt w → Calls Tryz.prog 163 #[.int .i64 k] w fun e w' => e = .returned (.tuple #[.agg (ruleV kd wd pol lo tn), .bool true]) ∧ Below w.heap.size w w') := hrule
 have HT : Hid (∀ w, Calls Tryz.prog 164 #[.agg (ruleV kd wd pol lo tn)] w fun e w' => e = .returned (.agg T) ∧ Below w.heap.size w w') := htab
 clear hrule htab
 go_enter Tryz.func122, Tryz.ntmps122
 go_wp2_with fail
 refine (HR.out w hR).mono ?_
 rintro e w1 ⟨rfl, hB⟩
 have HB : Hid (Below w.heap.size w w1) := hB
 clear hB
 go_wp2_with fail
 generalize hwa : w1.alloc (.cells #[.int .i64 kd, .int .i64 wd, .int .u32 pol, .bool lo, .int .u32 tn] 195) = wa
 generalize hb : w1.heap.size = b
 have hrow : wa.heap[b]? = some (.cells (ruleV kd wd pol lo tn) 195 (0, 0)) := by
  rw [← hwa, ← hb];exact heap_alloc_last _ _
 have HW : Hid (Below w.heap.size w wa) := by
  rw [← hwa];exact HB.out.alloc HB.out.size _
 have HL : Hid (b < wa.heap.size) := lt_of_block hrow
 have hcells : ∀ w2, Below wa.heap.size wa.drew w2 → w2.cell? ⟨b, 0, none⟩ = some (.int .i64 kd) ∧ w2.cell? ⟨b, 1, none⟩ = some (.int .i64 wd) ∧ w2.cell? ⟨b, 2, none⟩ = some (.int .u32 pol) ∧ w2.cell? ⟨b, 3, none⟩ = some (.bool lo) ∧ w2.cell? ⟨b, 4, none⟩ = some (.int .u32 tn) := by
  intro w2 h2;have h3 : w2.heap[b]? = some (.cells (ruleV kd wd pol lo tn) 195 (0, 0)) := by rw [h2.block b HL.out]; exact hrow
  refine ⟨?_, ?_, ?_, ?_, ?_⟩ <;> rw [cell_of_row _ _ _ _ _ _ h3] <;> rfl
 obtain ⟨c0, c1, c2, c3, c4⟩ := hcells wa ⟨rfl, rfl, rfl, Nat.le_refl _, fun _ _ => rfl⟩
 have HC : Hid (∀ w2, Below wa.heap.size wa.drew w2 → w2.cell? ⟨b, 0, none⟩ = some (.int .i64 kd) ∧ w2.cell? ⟨b, 1, none⟩ = some (.int .i64 wd) ∧ w2.cell? ⟨b, 2, none⟩ = some (.int .u32 pol) ∧ w2.cell? ⟨b, 3, none⟩ = some (.bool lo) ∧ w2.cell? ⟨b, 4, none⟩ = some (.int .u32 tn)) := hcells
 clear hcells hrow hwa hb HB
 go_region_with (go_at_call 164; refine (HT.out _).mono ?_; rintro e w2 ⟨rfl, hB2⟩; obtain ⟨e0, e1, e2, e3, e4⟩ := HC.out w2 hB2; have HB2 : Hid (Below wa.heap.size wa.drew w2) := hB2; clear hB2)
 all_goals go_wp2
 all_goals go_ret
 all_goals exact ⟨_, rfl, Nat.le_trans HW.out.size HB2.out.size, heap_alloc_last _ _, (HW.out.drew.trans (HB2.out.mono HW.out.size)).alloc (Nat.le_trans HW.out.size HB2.out.size) _⟩
def SumAt (w : World) (q : Nat) (kd wd pol : Int) (lo : Bool) (tn : Int) (F : Nat -> Nat) (reg : Nat) : Prop := w.heap[q]? = some (.cells (sumV kd wd pol lo tn F reg) 201 (0, 0))
theorem new_of (k kd wd pol tn : Int) (lo : Bool) (F : Nat -> Nat) (r : Nat) (hr : tn = (r : Int)) (hF : ∀ j, F j < 4294967296) (hX : ∀ a b, F (a ^^^ b) = F a ^^^ F b)
  (hM : ∀ (b : Nat), b < 256 -> ∀ w, Calls Tryz.prog 196 #[.agg (ruleV kd wd pol lo tn), .int .u32 (b : Int)] w fun e w' => e = .returned (.int .u32 (F b : Int)) /\ Lo w w')
  (hrule : ∀ w, RulesAt w -> Calls Tryz.prog 163 #[.int .i64 k] w fun e w' => e = .returned (.tuple #[.agg (ruleV kd wd pol lo tn), .bool true]) /\ Lo w w')
  (w : World) (hR : RulesAt w) :
  Calls Tryz.prog 122 #[.int .i64 k] w fun e w' => ∃ q, e = .returned (.pointer (some ⟨q, 0, none⟩)) /\ w.heap.size <= q /\ SumAt w' q kd wd pol lo tn F r /\ Lo w w' := by
 obtain ⟨h1, h2⟩ := zero_of_info zero201
 obtain ⟨e1, e2⟩ := built_sum kd wd pol lo tn F r hr _ (by simp : (#[.int .i64 0, .int .i64 0, .int .u32 0, .bool false, .int .u32 0] ++ Array.replicate 257 (.int .u32 0) : Array Value).size = 262)
 exact new_spec k kd wd pol tn lo (tabV F 256) (sumV kd wd pol lo tn F r) (sumV_size _ _ _ _ _ _ _) hrule (table_spec kd wd pol tn lo F hF hX hM) _ _ h1 (by simp) (tabV_size _ _) rfl e2 e1 w hR
abbrev S8 (w : World) (q : Nat) (reg : Nat) : Prop := SumAt w q 8 8 7 false 0 (fun b => (byteStep P8 0#32 b).toNat) reg
abbrev S16 (w : World) (q : Nat) (reg : Nat) : Prop := SumAt w q 16 16 32773 false 0 (fun b => (byteStep P16 0#32 b).toNat) reg
theorem new_8 (w : World) (hR : RulesAt w) : Calls Tryz.prog 122 #[.int .i64 8] w fun e w' => ∃ q, e = .returned (.pointer (some ⟨q, 0, none⟩)) /\ w.heap.size <= q /\ S8 w' q 0 /\ Lo w w' :=
 new_of 8 8 8 7 0 false _ 0 rfl (fun j => lt32 _) (fun a b => by simp only [byteStep_zero_xor, BitVec.toNat_xor]) (fun b hb w => movedOf_high 8 8 7 0 (by decide) (by decide) P8 (by decide) b hb w) ruleOf_8 w hR
theorem new_16 (w : World) (hR : RulesAt w) : Calls Tryz.prog 122 #[.int .i64 16] w fun e w' => ∃ q, e = .returned (.pointer (some ⟨q, 0, none⟩)) /\ w.heap.size <= q /\ S16 w' q 0 /\ Lo w w' :=
 new_of 16 16 16 32773 0 false _ 0 rfl (fun j => lt32 _) (fun a b => by simp only [byteStep_zero_xor, BitVec.toNat_xor]) (fun b hb w => movedOf_high 16 16 32773 0 (by decide) (by decide) P16 (by decide) b hb w) ruleOf_16 w hR
section
variable {w : World} {q : Nat} {kd wd pol : Int} {lo : Bool} {tn : Int} {F : Nat -> Nat} {reg : Nat}
theorem SumAt.c1 (h : SumAt w q kd wd pol lo tn F reg) : w.cell? ⟨q, 1, none⟩ = some (.int .i64 wd) := by rw [cell_of_row _ _ _ _ _ _ h, sumV_rule _ _ _ _ _ _ _ _ (by decide)]; rfl
theorem SumAt.c3 (h : SumAt w q kd wd pol lo tn F reg) : w.cell? ⟨q, 3, none⟩ = some (.bool lo) := by rw [cell_of_row _ _ _ _ _ _ h, sumV_rule _ _ _ _ _ _ _ _ (by decide)]; rfl
theorem SumAt.c4 (h : SumAt w q kd wd pol lo tn F reg) : w.cell? ⟨q, 4, none⟩ = some (.int .u32 tn) := by rw [cell_of_row _ _ _ _ _ _ h, sumV_rule _ _ _ _ _ _ _ _ (by decide)]; rfl
theorem SumAt.tab (h : SumAt w q kd wd pol lo tn F reg) (j : Nat) (hj : j < 256) : w.cell? ⟨q, 5 + j, none⟩ = some (.int .u32 (F j : Int)) := by rw [cell_of_row _ _ _ _ _ _ h, sumV_tab _ _ _ _ _ _ _ _ hj]
theorem SumAt.creg (h : SumAt w q kd wd pol lo tn F reg) : w.cell? ⟨q, 261, none⟩ = some (.int .u32 (reg : Int)) := by rw [cell_of_row _ _ _ _ _ _ h, sumV_reg]
theorem SumAt.f (h : SumAt w q kd wd pol lo tn F reg) (o : Nat) : w.frozen? ⟨q, o, none⟩ = false := by unfold SumAt at h; simp [World.frozen?, h]
theorem SumAt.set (h : SumAt w q kd wd pol lo tn F reg) (r : Nat) : SumAt (w.setCell ⟨q, 261, none⟩ (.int .u32 (r : Int))) q kd wd pol lo tn F r := by
 unfold SumAt at h ⊢
 rw [block_setCell _ _ _ _ _ _ h, sumV_set]
theorem SumAt.kept {w' : World} (h : SumAt w q kd wd pol lo tn F reg) (hb : w'.heap[q]? = w.heap[q]?) : SumAt w' q kd wd pol lo tn F reg := by
 unfold SumAt at h ⊢
 rw [hb]
 exact h
end
structure Only (q : Nat) (w w' : World) : Prop where
 os : w'.os = w.os
 tape : w'.tape = w.tape
 output : w'.output = w.output
 size : w'.heap.size = w.heap.size
 block : ∀ k, k ≠ q -> w'.heap[k]? = w.heap[k]?
theorem Only.below {q B : Nat} {w w' : World} (h : Only q w w') (hq : B <= q) : Below B w w' := ⟨h.os, h.tape, h.output, by rw [h.size]; exact Nat.le_refl _, fun k hk => h.block k (by omega)⟩
theorem Only.set (q o n : Nat) (w : World) (v : Value) : Only q w ((w.drewN n).setCell ⟨q, o, none⟩ v) := ⟨rfl, rfl, rfl, by simp [World.setCell, World.drewN], fun k hk => by rw [Below.heap_setCell _ _ _ _ hk]; rfl⟩
theorem take_snoc (s : ByteArray) (i : Nat) (h : i < s.size) : (bytesOf s).take (i + 1) = (bytesOf s).take i ++ [(s[i]'h).toNat] := by
 rw [List.take_succ_eq_append_getElem (by rw [bytesOf_length]; exact h), bytesOf_get s i h]
theorem crcL_snoc (P x : BitVec 32) (s : ByteArray) (i : Nat) (h : i < s.size) : crcL P x ((bytesOf s).take (i + 1)) = byteStep P (crcL P x ((bytesOf s).take i)) (s[i]'h).toNat := by
 rw [take_snoc s i h, crcL_append]
 rfl
theorem addHigh_spec (q : Nat) (kd wd pol tn : Int) (lo : Bool) (P x : BitVec 32) (s : ByteArray) (hs : s.size <= 200000000000000) (w : World) (h : SumAt w q kd wd pol lo tn (fun b => (byteStep P 0#32 b).toNat) x.toNat) :
  Calls Tryz.prog 166 #[.pointer (some ⟨q, 0, none⟩), .string s] w fun e w' => e = .returned (.tuple #[]) /\ SumAt w' q kd wd pol lo tn (fun b => (byteStep P 0#32 b).toNat) (crcL P x (bytesOf s)).toNat /\ Only q w w' := by
 have HS := kQ h
 have cr := h.creg
 clear h
 go_enter Tryz.func166, Tryz.ntmps166
 go_wp2
 go_loopw [4, 12] (fun u t wr => ∃ (i n : Nat) (r : BitVec 32), i <= s.size /\ wr = w.drewN n /\ r = crcL P x ((bytesOf s).take i) /\ u = .int .u32 (r.toNat : Int) /\ t = .int .i64 (i : Int)) (fun _ t _ => s.size - (intOf t).toNat)
 case atStart => exact ⟨0, 0, x, Nat.zero_le _, rfl, rfl, rfl, rfl⟩
 case round =>
  obtain ⟨i, n, r, hi, rfl, hr, rfl, rfl⟩ := hrel;by_cases hlt : i < s.size
  ·have hx : (s[i]'hlt).toNat < 256 := UInt8.toNat_lt _
   have HR : Hid (byteStep P r (s[i]'hlt).toNat = crcL P x ((bytesOf s).take (i + 1))) := by
    show _ = _;rw [crcL_snoc, <- hr]
   clear hr;have hrl := lt32 r;have ha := high_add P r (s[i]'hlt).toNat hx;have hk : r.toNat / 16777216 ^^^ (s[i]'hlt).toNat < 256 := Nat.xor_lt_two_pow (n := 8) (by omega) hx
   have hix : bits .xor .u8 ((r.toNat : Int) / 16777216) ((s[i]'hlt).toNat : Int) = ((r.toNat / 16777216 ^^^ (s[i]'hlt).toNat : Nat) : Int) := by
    have e : (r.toNat : Int) / 16777216 = ((r.toNat / 16777216 : Nat) : Int) := by simp
    rw [e, u8_xor_nat _ _ (by omega) hx]
   have ct := HS.out.tab _ hk;generalize r.toNat / 16777216 ^^^ (s[i]'hlt).toNat = k at *
   go_wp2_with fail
   go_quiet (fail)
   go_wp2
   go_roundw
   case rel => exact ⟨i + 1, n + nq, _, by omega, rfl, HR.out, rfl, by go_num⟩
   case measure => simp [intOf]; omega
  ·have hie : i = s.size := by omega
   have HR : Hid (r = crcL P x (bytesOf s)) := by
    show _ = _;rw [hr, hie, List.take_of_length_le (by rw [bytesOf_length]; exact Nat.le_refl _)]
   have cw := HS.out.creg;have fw := HS.out.f 261;clear hr hie
   go_wp2
   go_end0
   refine ⟨rfl, ?_, Only.set _ _ _ _ _⟩;rw [<- HR.out];exact (HS.out.kept (w' := w.drewN n) rfl).set _
theorem add_high (q : Nat) (kd wd pol tn : Int) (P x : BitVec 32) (s : ByteArray) (hs : s.size <= 200000000000000) (w : World) (h : SumAt w q kd wd pol false tn (fun b => (byteStep P 0#32 b).toNat) x.toNat) :
  Calls Tryz.prog 123 #[.pointer (some ⟨q, 0, none⟩), .string s] w fun e w' => e = .returned (.tuple #[]) /\ SumAt w' q kd wd pol false tn (fun b => (byteStep P 0#32 b).toNat) (crcL P x (bytesOf s)).toNat /\ Only q w w' := by
 have HS := kQ h
 have c3 := h.c3
 clear h
 go_enter Tryz.func123, Tryz.ntmps123
 go_wp2_with fail
 refine (addHigh_spec q kd wd pol tn false P x s hs w HS.out).mono ?_
 rintro e w1 ⟨rfl, h1, h2⟩
 have H1 := kQ h1
 have H2 := kQ h2
 clear h1 h2
 go_wp2
 go_end0
 exact ⟨rfl, H1.out, H2.out⟩
theorem value_spec (q : Nat) (kd wd pol tn : Int) (lo : Bool) (F : Nat -> Nat) (reg v : Nat) (h0 : 0 <= wd) (h32 : wd <= 32) (hv : bits .xor .u32 (reg : Int) tn / 2 ^ (32 - wd).toNat = (v : Int)) (hl : v < 4294967296) (w : World) (h : SumAt w q kd wd pol lo tn F reg) :
  Calls Tryz.prog 124 #[.pointer (some ⟨q, 0, none⟩)] w fun e w' => e = .returned (.int .i64 (v : Int)) /\ ∃ n, w' = w.drewN n := by
 have c1 := h.c1
 have c4 := h.c4
 have cr := h.creg
 clear h
 go_enter Tryz.func124, Tryz.ntmps124
 go_wp2_with fail
 go_quiet (fail)
 go_wp2
 go_ret
 exact ⟨rfl, _, rfl⟩
def c8 (s : ByteArray) : Nat := (crcL p8 0#8 (bytesOf s)).toNat
def c16 (s : ByteArray) : Nat := (crcL p16 0#16 (bytesOf s)).toNat
theorem xor0 (n : Nat) (h : n < 4294967296) : bits .xor .u32 (n : Int) 0 = (n : Int) := by
 have := u32_xor_nat n 0 h (by decide)
 simpa using this
theorem value_8 (q : Nat) (l : List Nat) (w : World) (h : S8 w q (crcL P8 0#32 l).toNat) : Calls Tryz.prog 124 #[.pointer (some ⟨q, 0, none⟩)] w fun e w' => e = .returned (.int .i64 (((crcL p8 0#8 l).toNat : Nat) : Int)) /\ ∃ n, w' = w.drewN n := by
 refine value_spec q 8 8 7 0 false _ _ _ (by decide) (by decide) ?_ (by have := (crcL p8 0#8 l).isLt; omega) w h
 rw [xor0 _ (lt32 _), <- crc8_up l]
 simp
theorem value_16 (q : Nat) (l : List Nat) (w : World) (h : S16 w q (crcL P16 0#32 l).toNat) : Calls Tryz.prog 124 #[.pointer (some ⟨q, 0, none⟩)] w fun e w' => e = .returned (.int .i64 (((crcL p16 0#16 l).toNat : Nat) : Int)) /\ ∃ n, w' = w.drewN n := by
 refine value_spec q 16 16 32773 0 false _ _ _ (by decide) (by decide) ?_ (by have := (crcL p16 0#16 l).isLt; omega) w h
 rw [xor0 _ (lt32 _), <- crc16_up l]
 simp
theorem Below.drewN_right {B : Nat} {a w : World} (h : Below B a w) (n : Nat) : Below B a (w.drewN n) := ⟨h.os, h.tape, h.output, h.size, h.block⟩
theorem sumOf_of (k : Int) (s : ByteArray) (v : Nat) (A B : World -> Nat -> Prop)
  (hnew : ∀ w, RulesAt w -> Calls Tryz.prog 122 #[.int .i64 k] w fun e w' => ∃ q, e = .returned (.pointer (some ⟨q, 0, none⟩)) /\ w.heap.size <= q /\ A w' q /\ Lo w w')
  (hadd : ∀ w q, A w q -> Calls Tryz.prog 123 #[.pointer (some ⟨q, 0, none⟩), .string s] w fun e w' => e = .returned (.tuple #[]) /\ B w' q /\ Only q w w')
  (hval : ∀ w q, B w q -> Calls Tryz.prog 124 #[.pointer (some ⟨q, 0, none⟩)] w fun e w' => e = .returned (.int .i64 (v : Int)) /\ ∃ n, w' = w.drewN n)
  (w : World) (hR : RulesAt w) :
  Calls Tryz.prog 68 #[.int .i64 k, .string s] w fun e w' => e = .returned (.int .i64 (v : Int)) /\ Lo w w' := by
 have HN := kQ hnew
 have HA := kQ hadd
 have HV := kQ hval
 clear hnew hadd hval
 go_enter Tryz.func68, Tryz.ntmps68
 go_wp2_with fail
 refine (HN.out w hR).mono ?_
 rintro e w1 ⟨q, rfl, hq, hA, hB⟩
 have HAq := kQ hA
 have HB := kQ hB
 have HQ := kQ hq
 clear hA hB hq
 go_wp2_with fail
 refine (HA.out w1 q HAq.out).mono ?_
 rintro e w2 ⟨rfl, hb, ho⟩
 have HBq := kQ hb
 have HO := kQ ho
 clear hb ho
 go_wp2_with fail
 refine (HV.out w2 q HBq.out).mono ?_
 rintro e w3 ⟨rfl, n, rfl⟩
 go_wp2
 go_ret
 exact ⟨rfl, Below.drewN_right (HB.out.trans (HO.out.below HQ.out)) n⟩
theorem crc8_sum (s : ByteArray) (hs : s.size <= 200000000000000) (w : World) (hR : RulesAt w) : Calls Tryz.prog 68 #[.int .i64 8, .string s] w fun e w' => e = .returned (.int .i64 (c8 s : Int)) /\ Lo w w' :=
 sumOf_of 8 s (c8 s) (fun w q => S8 w q 0) (fun w q => S8 w q (crcL P8 0#32 (bytesOf s)).toNat) new_8 (fun w q h => add_high q 8 8 7 0 P8 0#32 s hs w h) (fun w q h => value_8 q _ w h) w hR
theorem crc8_spec (s : ByteArray) (hs : s.size <= 200000000000000) (w : World) (hR : RulesAt w) : Calls Tryz.prog 63 #[.string s] w fun e w' => e = .returned (.int .i64 (c8 s : Int)) /\ Lo w w' := by
 have HC : Hid (G1 68 #[.int .i64 8, .string s] w (.int .i64 (c8 s : Int))) := crc8_sum s hs w hR
 generalize c8 s = v at HC ⊢
 clear hR
 go_enter Tryz.func63, Tryz.ntmps63
 go_wp2_with fail
 refine HC.out.mono ?_
 rintro e w1 ⟨rfl, hB⟩
 have HB := kQ hB
 clear hB
 go_wp2
 go_ret
 exact ⟨rfl, HB.out⟩
theorem crc16_sum (s : ByteArray) (hs : s.size <= 200000000000000) (w : World) (hR : RulesAt w) : Calls Tryz.prog 68 #[.int .i64 16, .string s] w fun e w' => e = .returned (.int .i64 (c16 s : Int)) /\ Lo w w' :=
 sumOf_of 16 s (c16 s) (fun w q => S16 w q 0) (fun w q => S16 w q (crcL P16 0#32 (bytesOf s)).toNat) new_16 (fun w q h => add_high q 16 16 32773 0 P16 0#32 s hs w h) (fun w q h => value_16 q _ w h) w hR
theorem crc16_spec (s : ByteArray) (hs : s.size <= 200000000000000) (w : World) (hR : RulesAt w) : Calls Tryz.prog 25 #[.string s] w fun e w' => e = .returned (.int .i64 (c16 s : Int)) /\ Lo w w' := by
 have HC : Hid (G1 68 #[.int .i64 16, .string s] w (.int .i64 (c16 s : Int))) := crc16_sum s hs w hR
 generalize c16 s = v at HC ⊢
 clear hR
 go_enter Tryz.func25, Tryz.ntmps25
 go_wp2_with fail
 refine HC.out.mono ?_
 rintro e w1 ⟨rfl, hB⟩
 have HB := kQ hB
 clear hB
 go_wp2
 go_ret
 exact ⟨rfl, HB.out⟩
end S3
end Go.Proofs.YtfpfabmbipmipaaGreatDoor
namespace Go.Proofs.YtfpfabmbipmipaaGreatDoor
open Go.RowKit
theorem wrap_is (n : Int) : IntKind.i64.wrap n = wrap64 n := by unfold wrap64; exact IntKind.wrap_i64 n
theorem tmp_new (X : World) (v : Value) : (X.alloc (.cells #[v] 3)).heap[X.heap.size]? = some (.cells #[v] 3 (0, 0)) := heap_alloc_new _ _
theorem own_low {N : Nat} {e : TypeId} {z : Nat} {v : Value} {n : Nat} {xs : List Value} {w w' : World} (h : w.ownsRow N e z v n xs) (hb : Lo w w') : w'.ownsRow N e z v n xs := by
 refine h.kept (row := none) ⟨hb.os, hb.tape, hb.output, hb.size, fun k hk _ => hb.block k hk⟩ ?_
 cases e : v.ownBlock with
 | none => exact .inl rfl
 | some g => exact .inr (fun h => by cases h)
theorem own_ints {N : Nat} {ao : OA} {cap : Nat} {L : List Int} {w : World} (h : w.ownsRow N 3 1 (.slice ao L.length cap) L.length (intsC L)) (hl : L.length <= 17592186044415) (hn : ∀ n ∈ L, -9223372036854775808 <= n /\ n <= 9223372036854775807) : IntsAt w ao L := by
 refine ⟨hl, hn, fun h0 => ?_⟩
 obtain ⟨g, c, e, _, _⟩ := h.form h0
 simp only [Value.slice.injEq, true_and] at e
 obtain ⟨rfl, rfl⟩ := e
 refine ⟨g, 0, rfl, fun j hj => ?_⟩
 rw [Nat.zero_add, h.cellAt j (by omega)]
 simp [intsC, List.getD_eq_getElem?_getD, List.getElem?_eq_getElem hj]
theorem int_info : ∃ i, Tryz.prog.info? 3 = some i /\ i.zero = some (.int .i64 0) /\ i.size = 1 /\ i.bytes = 8 := by
 have h : (Tryz.prog.info? 3).map (fun i => (i.zero, i.size, i.bytes)) = some (some (.int .i64 0), 1, 8) := by kernel_rfl
 cases hq : Tryz.prog.info? 3 with
 | none => rw [hq] at h; cases h
 | some i =>
  rw [hq] at h;simp only [Option.map_some, Option.some.injEq, Prod.mk.injEq] at h;exact ⟨i, rfl, h.1, h.2.1, h.2.2⟩
theorem undI3 : Tryz.prog.underlying 56 = some (.slice 3) := by kernel_rfl
structure Out (w : World) (v : Value) (xs : List Int) (X : World) : Prop where
 own : X.ownsRow w.heap.size 3 1 v xs.length (intsC xs)
 below : Lo w X
theorem IntsAt.news {w : World} {ao : OA} {l : List Int} (h : IntsAt w ao l) : ∀ ad, ao = some ad -> ∀ j u, (intsC l)[j]? = some u -> w.cell? (ad.add j) = some u := fun ad e j u hu => by
 have hj : j < l.length := by
  have := (List.getElem?_eq_some_iff.1 hu).1;rw [intsC_length] at this; exact this
 obtain ⟨b, off, e2, hc⟩ := h.lies (by omega)
 rw [e2] at e; cases e
 rw [Addr.add_mid, hc j hj]
 unfold intsC at hu
 rw [List.getElem?_map, List.getElem?_eq_getElem hj] at hu
 rw [List.getD_eq_getElem?_getD, List.getElem?_eq_getElem hj]
 exact hu
theorem cell_row {w : World} {b : Nat} {cs : Array Value} {t : TypeId} {fr : Nat × Nat} (h : w.heap[b]? = some (.cells cs t fr)) (j : Nat) : w.cell? ⟨b, j, none⟩ = cs[j]? := by
 simp [World.cell?, h]
theorem ints_new (w : World) (l : List Int) (hl : l.length <= 1000) (hn : ∀ n ∈ l, -9223372036854775808 <= n /\ n <= 9223372036854775807) : IntsAt (w.alloc (.cells (intsC l).toArray 3)) (some ⟨w.heap.size, 0, none⟩) l := by
 refine ⟨by omega, hn, fun h0 => ⟨w.heap.size, 0, rfl, fun j hj => ?_⟩⟩
 rw [cell_row (heap_alloc_new _ _)]
 rw [Nat.zero_add, List.getElem?_toArray]
 unfold intsC
 rw [List.getElem?_map, List.getElem?_eq_getElem hj, List.getD_eq_getElem?_getD, List.getElem?_eq_getElem hj]
 rfl
def ansL (R : Option (List Int)) : List Int := R.getD []
def ansE (R : Option (List Int)) : Int := match R with
 | none => 1
 | some _ => 0
def Ret2 (R : Option (List Int)) (w : World) (e : Ending) (w' : World) : Prop := ∃ la lc, e = .returned (.tuple #[.slice la (ansL R).length lc, .int .i64 (ansE R)]) /\ IntsAt w' la (ansL R) /\ Lo w w'
theorem IntsAt.nil (w : World) : IntsAt w none [] := ⟨by simp, by simp, fun h => by simp at h⟩
theorem Out.nil (w : World) : Out w (.slice none 0 0) [] w := ⟨World.ownsRow_nil _ _ _ _, Below.refl _ _⟩
theorem Out.low {w X X' : World} {v : Value} {xs : List Int} (h : Out w v xs X) (hb : Lo X X') : Out w v xs X' := ⟨own_low h.own hb, h.below.trans (hb.mono h.below.size)⟩
theorem Out.drew {w X : World} {v : Value} {xs : List Int} (h : Out w v xs X) : Out w v xs X.drew := h.low dQ
theorem Out.alloc {w X : World} {v : Value} {xs : List Int} (h : Out w v xs X) (o : Obj) : Out w v xs (X.alloc o) := h.low aQ
theorem Out.push {w X : World} {v : Value} {xs : List Int} (h : Out w v xs X) {g cap : Nat} {w1 : World} {p : Int} (ho : w1.ownsRow w.heap.size 3 1 (.slice (some ⟨g, 0, none⟩) (xs.length + 1) cap) (xs.length + 1) (intsC xs ++ [.int .i64 p])) (hg : X.grownBy w1 v.ownBlock) : Out w (.slice (some ⟨g, 0, none⟩) (xs.length + 1) cap) (xs ++ [p]) w1 := by
 refine ⟨by rw [List.length_append, intsC_append]; exact ho, h.below.trans ⟨hg.os, hg.tape, hg.output, hg.size, fun k hk => ?_⟩⟩
 exact hg.block k (by have := h.below.size; omega) (fun e => by have := (h.own.lt k e.symm).1; omega)
theorem Out.shape {w X : World} {v : Value} {xs : List Int} (h : Out w v xs X) : ∃ ao cap, v = .slice ao xs.length cap := by
 obtain ⟨ao, cap, h1, _⟩ := owns_shape h.own
 exact ⟨ao, cap, h1⟩
theorem Out.ints {w X : World} {ao : OA} {cap : Nat} {xs : List Int} (h : Out w (.slice ao xs.length cap) xs X) (hl : xs.length <= 17592186044415) (hn : ∀ n ∈ xs, -9223372036854775808 <= n /\ n <= 9223372036854775807) : IntsAt X ao xs := own_ints h.own hl hn
abbrev subC (q : Sb) (ca : OA) (cc : Nat) (pa : OA) (pc : Nat) (ea : OA) (ec : Nat) : Array Value := #[.int .i64 q.k, .int .i64 q.o, .int .i64 q.w, .int .i64 q.p, .int .i64 q.h, .slice ca q.C.length cc, .int .i64 q.R.m, .int .i64 q.R.o, .slice pa q.R.P.length pc, .slice ea q.R.E.length ec]
abbrev subV (q : Sb) (ca : OA) (cc : Nat) (pa : OA) (pc : Nat) (ea : OA) (ec : Nat) : Value := .agg (subC q ca cc pa pc ea ec)
abbrev I64 (x : Int) : Prop := -9223372036854775808 <= x /\ x <= 9223372036854775807
structure SbAt (w : World) (q : Sb) (ca pa ea : OA) : Prop where
 C : IntsAt w ca q.C
 R : RcAt w q.R pa ea
 k : I64 q.k
 o : I64 q.o
 w : I64 q.w
 p : I64 q.p
 h : I64 q.h
theorem SbAt.keep {w w' : World} {q : Sb} {ca pa ea : OA} (a : SbAt w q ca pa ea) (hb : ∀ k, k < w.heap.size -> w'.heap[k]? = w.heap[k]?) : SbAt w' q ca pa ea := ⟨a.C.keep hb, a.R.keep hb, a.k, a.o, a.w, a.p, a.h⟩
theorem SbAt.below {w w' : World} {q : Sb} {ca pa ea : OA} (a : SbAt w q ca pa ea) (hb : Lo w w') : SbAt w' q ca pa ea := a.keep hb.block
abbrev S0 : Sb := ⟨0, 0, 0, 0, 0, [], R0⟩
abbrev okS (q : Sb) (v : Int) (l : List Int) : Prop := subOk q l.length v /\ goesOk q v l
def Fr (n : Nat) (ao : OA) : Prop := ∀ b, blockOf ao = some b -> n <= b
theorem sub_cells {w : World} {g : Nat} {q : Sb} {ca : OA} {cc : Nat} {pa : OA} {pc : Nat} {ea : OA} {ec : Nat} (h : w.heap[g]? = some (.cells (subC q ca cc pa pc ea ec) 67 (0, 0))) :
  w.cell? ⟨g, 0, none⟩ = some (.int .i64 q.k) /\ w.cell? ⟨g, 1, none⟩ = some (.int .i64 q.o) /\ w.cell? ⟨g, 2, none⟩ = some (.int .i64 q.w) /\ w.cell? ⟨g, 3, none⟩ = some (.int .i64 q.p) /\ w.cell? ⟨g, 4, none⟩ = some (.int .i64 q.h) /\ w.cell? ⟨g, 5, none⟩ = some (.slice ca q.C.length cc) /\ w.cell? ⟨g, 6, none⟩ = some (.int .i64 q.R.m) /\ w.cell? ⟨g, 7, none⟩ = some (.int .i64 q.R.o) /\ w.cell? ⟨g, 8, none⟩ = some (.slice pa q.R.P.length pc) /\ w.cell? ⟨g, 9, none⟩ = some (.slice ea q.R.E.length ec) := by
 refine ⟨?_, ?_, ?_, ?_, ?_, ?_, ?_, ?_, ?_, ?_⟩ <;> (rw [cell_of_row _ _ _ _ _ _ h]; rfl)
theorem ints_same (l : List Int) (a b : OA) (c d : Nat) (w : World) (hl : IntsAt w a l) (hm : IntsAt w b l) :
  Calls Tryz.prog 55 #[.slice a l.length c, .slice b l.length d] w fun e w' => e = .returned (.bool true) /\ ∃ n, w' = w.drewN n := by
 have h1 := hl.len
 have HL := kQ hl
 have HM := kQ hm
 clear hl hm
 go_enter Tryz.func55, Tryz.ntmps55
 go_wp2_with fail
 go_loopw [5] (fun t wr => ∃ k n : Nat, k <= l.length /\ t = .int .i64 (k : Int) /\ wr = w.drewN n) (fun t _ => l.length - (intOf t).toNat)
 case atStart => exact ⟨0, 0, Nat.zero_le _, rfl, rfl⟩
 case round =>
  obtain ⟨k, n, hk, rfl, hw⟩ := hrel;have HW := kQ hw;clear hw;by_cases hlt : k < l.length
  ·obtain ⟨b1, o1, rfl, q1⟩ := HL.out.at k hlt
   obtain ⟨b2, o2, rfl, q2⟩ := HM.out.at k hlt;have r1 := q1 wr (by rw [HW.out]; exact below_drewN _ _)
   have r2 := q2 wr (by rw [HW.out]; exact below_drewN _ _)
   clear q1 q2;generalize l.getD k 0 = x at *
   go_wp2_with fail
   go_quiet (fail)
   go_wp2_with fail
   go_roundw
   case rel => exact ⟨k + 1, n + nq, by omega, by go_num, by rw [HW.out, World.drewN_drewN]⟩
   case measure => simp [intOf]; omega
  ·go_wp2_with fail
   go_ret;exact ⟨rfl, n, HW.out⟩
theorem xfore_spec (C l : List Int) (ca la : OA) (cc lc : Nat) (sh a : Nat) (hsh : sh <= 31) (hCa : C.length <= a) (hal : a <= l.length) (w : World) (hC : IntsAt w ca C) (hl : IntsAt w la l) :
  Calls Tryz.prog 167 #[.slice ca C.length cc, .int .i64 (sh : Int), .slice la l.length lc, .int .i64 (a : Int)] w fun e w' => e = .returned (.int .i64 (foreN C sh l a)) /\ ∃ n, w' = w.drewN n := by
 have h1 := hl.len
 have HC := kQ hC
 have HL := kQ hl
 have HF : Hid (foreN C sh l a = foreS C l a C.length / 2 ^ sh) := rfl
 clear hC hl
 go_enter Tryz.func167, Tryz.ntmps167
 go_wp2_with fail
 go_loopw [9, 10] (fun s t wr => ∃ k n : Nat, k <= C.length /\ t = .int .i64 (k : Int) /\ s = .int .i64 (foreS C l a k) /\ wr = w.drewN n) (fun _ t _ => C.length - (intOf t).toNat)
 case atStart => exact ⟨0, 0, Nat.zero_le _, rfl, rfl, rfl⟩
 case round =>
  obtain ⟨k, n, hk, rfl, rfl, hw⟩ := hrel;have HW := kQ hw;have hfr := foreS_rng C l a k;clear hw;by_cases hlt : k < C.length
  ·obtain ⟨b1, o1, rfl, q1⟩ := HC.out.at k hlt
   obtain ⟨b2, o2, rfl, q2⟩ := HL.out.at (a - 1 - k) (by omega)
   have r1 := q1 wr (by rw [HW.out]; exact below_drewN _ _)
   have r2 := q2 wr (by rw [HW.out]; exact below_drewN _ _)
   have HN : Hid (foreS C l a (k + 1) = wrap64 (foreS C l a k + wrap64 (C.getD k 0 * l.getD (a - 1 - k) 0))) := rfl;have hix : (a : Int) - 1 - (k : Int) = ((a - 1 - k : Nat) : Int) := by omega
   have hil : a - 1 - k < l.length := by omega
   clear q1 q2;generalize C.getD k 0 = x at *;generalize l.getD (a - 1 - k) 0 = y at *;generalize a - 1 - k = ix at *;generalize foreS C l a k = su at *
   go_wp2_with fail
   go_quiet (fail)
   go_wp2_with fail
   go_roundw
   case rel => exact ⟨k + 1, n + nq, by omega, by go_num, by rw [HN.out], by rw [HW.out, World.drewN_drewN]⟩
   case measure => simp [intOf]; omega
  ·have hke : k = C.length := by omega
   subst hke;generalize foreS C l a C.length = su at *;have hs2 : (sh : Int) <= 31 := by omega
   go_wp2_with fail
   go_ret;exact ⟨by rw [HF.out]; rfl, n, HW.out⟩
end Go.Proofs.YtfpfabmbipmipaaGreatDoor
