/- Own text: the walk of 'New': a sum of nothing. -/
import Derived.Test.YtdmgkgomldjnhaaDoorCells
import Derived.Deep.RegionWith
namespace Go.Proofs.YtdmgkgomldjnhaaDoor
open Go.RowKit
set_option linter.unusedSimpArgs false
set_option linter.unusedVariables false

set_option maxRecDepth 20000 in
set_option maxHeartbeats 1600000 in
theorem new_spec (k kd wd pol tn : Int) (lo : Bool) (T : Array Value) (C : Array Value) (hC : C.size = 262)
    (hrule : ∀ w, RulesAt w → Calls Tryd.prog 25 #[.int .i64 k] w fun e w' => e = .returned (.tuple #[.agg (ruleV kd wd pol lo tn), .bool true]) ∧ Below w.heap.size w w')
    (htab : ∀ w, Calls Tryd.prog 26 #[.agg (ruleV kd wd pol lo tn)] w fun e w' => e = .returned (.agg T) ∧ Below w.heap.size w w')
    (Z M : Array Value) (hz : ∀ w, (zeroValue 49).run Tryd.prog w = .ok (.agg Z) w) (hZ : Z.size = 262) (hT : T.size = 256)
    (hM : Array.foldl (fun cs (x : Value × Nat) => cs.setIfInBounds (5 + x.snd) x.fst) (((((Z.setIfInBounds 0 (.int .i64 kd)).setIfInBounds 1 (.int .i64 wd)).setIfInBounds 2 (.int .u32 pol)).setIfInBounds 3 (.bool lo)).setIfInBounds 4 (.int .u32 tn)) T.zipIdx 0 256 = M)
    (hMs : M.size = 262) (hMC : M.setIfInBounds 261 (.int .u32 tn) = C)
    (w : World) (hR : RulesAt w) :
    Calls Tryd.prog 17 #[.int .i64 k] w fun e w' => ∃ q, e = .returned (.pointer (some ⟨q, 0, none⟩)) ∧ w.heap.size ≤ q ∧ w'.heap[q]? = some (.cells C 49 (0, 0)) ∧ Below w.heap.size w w' := by
  have HR : Hid (∀ w, RulesAt w → Calls Tryd.prog 25 #[.int .i64 k] w fun e w' => e = .returned (.tuple #[.agg (ruleV kd wd pol lo tn), .bool true]) ∧ Below w.heap.size w w') := hrule
  have HT : Hid (∀ w, Calls Tryd.prog 26 #[.agg (ruleV kd wd pol lo tn)] w fun e w' => e = .returned (.agg T) ∧ Below w.heap.size w w') := htab
  clear hrule htab
  go_enter Tryd.func17, Tryd.ntmps17
  go_wp2_with fail
  refine (HR.out w hR).mono ?_
  rintro e w1 ⟨rfl, hB⟩
  have HB : Hid (Below w.heap.size w w1) := hB
  clear hB
  go_wp2_with fail
  generalize hwa : w1.alloc (.cells #[.int .i64 kd, .int .i64 wd, .int .u32 pol, .bool lo, .int .u32 tn] 43) = wa
  generalize hb : w1.heap.size = b
  have hrow : wa.heap[b]? = some (.cells (ruleV kd wd pol lo tn) 43 (0, 0)) := by
    rw [← hwa, ← hb]
    exact heap_alloc_last _ _
  have HW : Hid (Below w.heap.size w wa) := by
    rw [← hwa]
    exact HB.out.alloc HB.out.size _
  have HL : Hid (b < wa.heap.size) := lt_of_block hrow
  have hcells : ∀ w2, Below wa.heap.size wa.drew w2 → w2.cell? ⟨b, 0, none⟩ = some (.int .i64 kd) ∧ w2.cell? ⟨b, 1, none⟩ = some (.int .i64 wd) ∧ w2.cell? ⟨b, 2, none⟩ = some (.int .u32 pol) ∧ w2.cell? ⟨b, 3, none⟩ = some (.bool lo) ∧ w2.cell? ⟨b, 4, none⟩ = some (.int .u32 tn) := by
    intro w2 h2
    have h3 : w2.heap[b]? = some (.cells (ruleV kd wd pol lo tn) 43 (0, 0)) := by rw [h2.block b HL.out]; exact hrow
    refine ⟨?_, ?_, ?_, ?_, ?_⟩ <;> rw [cell_of_row _ _ _ _ _ _ h3] <;> rfl
  obtain ⟨c0, c1, c2, c3, c4⟩ := hcells wa ⟨rfl, rfl, rfl, Nat.le_refl _, fun _ _ => rfl⟩
  have HC : Hid (∀ w2, Below wa.heap.size wa.drew w2 → w2.cell? ⟨b, 0, none⟩ = some (.int .i64 kd) ∧ w2.cell? ⟨b, 1, none⟩ = some (.int .i64 wd) ∧ w2.cell? ⟨b, 2, none⟩ = some (.int .u32 pol) ∧ w2.cell? ⟨b, 3, none⟩ = some (.bool lo) ∧ w2.cell? ⟨b, 4, none⟩ = some (.int .u32 tn)) := hcells
  clear hcells hrow hwa hb HB
  go_region_with (go_at_call 26; refine (HT.out _).mono ?_; rintro e w2 ⟨rfl, hB2⟩; obtain ⟨e0, e1, e2, e3, e4⟩ := HC.out w2 hB2; have HB2 : Hid (Below wa.heap.size wa.drew w2) := hB2; clear hB2)
  all_goals go_wp2
  all_goals go_ret
  all_goals exact ⟨_, rfl, Nat.le_trans HW.out.size HB2.out.size, heap_alloc_last _ _, (HW.out.drew.trans (HB2.out.mono HW.out.size)).alloc (Nat.le_trans HW.out.size HB2.out.size) _⟩

/-- A sum in memory: its rule, its table, its register. -/
def SumAt (w : World) (q : Nat) (kd wd pol : Int) (lo : Bool) (tn : Int) (F : Nat → Nat) (reg : Nat) : Prop := w.heap[q]? = some (.cells (sumV kd wd pol lo tn F reg) 49 (0, 0))

/-- A sum of a kind, of nothing. -/
theorem new_of (k kd wd pol tn : Int) (lo : Bool) (F : Nat → Nat) (r : Nat) (hr : tn = (r : Int)) (hF : ∀ j, F j < 4294967296) (hX : ∀ a b, F (a ^^^ b) = F a ^^^ F b)
    (hM : ∀ (b : Nat), b < 256 → ∀ w, Calls Tryd.prog 29 #[.agg (ruleV kd wd pol lo tn), .int .u32 (b : Int)] w fun e w' => e = .returned (.int .u32 (F b : Int)) ∧ Below w.heap.size w w')
    (hrule : ∀ w, RulesAt w → Calls Tryd.prog 25 #[.int .i64 k] w fun e w' => e = .returned (.tuple #[.agg (ruleV kd wd pol lo tn), .bool true]) ∧ Below w.heap.size w w')
    (w : World) (hR : RulesAt w) :
    Calls Tryd.prog 17 #[.int .i64 k] w fun e w' => ∃ q, e = .returned (.pointer (some ⟨q, 0, none⟩)) ∧ w.heap.size ≤ q ∧ SumAt w' q kd wd pol lo tn F r ∧ Below w.heap.size w w' := by
  obtain ⟨h1, h2⟩ := zero_of_info zero49
  obtain ⟨e1, e2⟩ := built_sum kd wd pol lo tn F r hr _ (by simp : (#[.int .i64 0, .int .i64 0, .int .u32 0, .bool false, .int .u32 0] ++ Array.replicate 257 (.int .u32 0) : Array Value).size = 262)
  exact new_spec k kd wd pol tn lo (tabV F 256) (sumV kd wd pol lo tn F r) (sumV_size _ _ _ _ _ _ _) hrule (table_spec kd wd pol tn lo F hF hX hM) _ _ h1 (by simp) (tabV_size _ _) rfl e2 e1 w hR

/-- The four kinds. -/
abbrev S8 (w : World) (q : Nat) (reg : Nat) : Prop := SumAt w q 8 8 7 false 0 (fun b => (byteStep P8 0#32 b).toNat) reg
abbrev S16 (w : World) (q : Nat) (reg : Nat) : Prop := SumAt w q 16 16 32773 false 0 (fun b => (byteStep P16 0#32 b).toNat) reg
abbrev S32 (w : World) (q : Nat) (reg : Nat) : Prop := SumAt w q 32 32 79764919 false 0 (fun b => (byteStep p32 0#32 b).toNat) reg
abbrev S33 (w : World) (q : Nat) (reg : Nat) : Prop := SumAt w q 33 32 3988292384 true 4294967295 (fun b => (r8 q32 (BitVec.ofNat 32 b)).toNat) reg

theorem new_8 (w : World) (hR : RulesAt w) : Calls Tryd.prog 17 #[.int .i64 8] w fun e w' => ∃ q, e = .returned (.pointer (some ⟨q, 0, none⟩)) ∧ w.heap.size ≤ q ∧ S8 w' q 0 ∧ Below w.heap.size w w' :=
  new_of 8 8 8 7 0 false _ 0 rfl (fun j => lt32 _) (fun a b => by simp only [byteStep_zero_xor, BitVec.toNat_xor]) (fun b hb w => movedOf_high 8 8 7 0 (by decide) (by decide) P8 (by decide) b hb w) ruleOf_8 w hR
theorem new_16 (w : World) (hR : RulesAt w) : Calls Tryd.prog 17 #[.int .i64 16] w fun e w' => ∃ q, e = .returned (.pointer (some ⟨q, 0, none⟩)) ∧ w.heap.size ≤ q ∧ S16 w' q 0 ∧ Below w.heap.size w w' :=
  new_of 16 16 16 32773 0 false _ 0 rfl (fun j => lt32 _) (fun a b => by simp only [byteStep_zero_xor, BitVec.toNat_xor]) (fun b hb w => movedOf_high 16 16 32773 0 (by decide) (by decide) P16 (by decide) b hb w) ruleOf_16 w hR
theorem new_32 (w : World) (hR : RulesAt w) : Calls Tryd.prog 17 #[.int .i64 32] w fun e w' => ∃ q, e = .returned (.pointer (some ⟨q, 0, none⟩)) ∧ w.heap.size ≤ q ∧ S32 w' q 0 ∧ Below w.heap.size w w' :=
  new_of 32 32 32 79764919 0 false _ 0 rfl (fun j => lt32 _) (fun a b => by simp only [byteStep_zero_xor, BitVec.toNat_xor]) (fun b hb w => movedOf_high 32 32 79764919 0 (by decide) (by decide) p32 (by decide) b hb w) ruleOf_32 w hR
theorem new_33 (w : World) (hR : RulesAt w) : Calls Tryd.prog 17 #[.int .i64 33] w fun e w' => ∃ q, e = .returned (.pointer (some ⟨q, 0, none⟩)) ∧ w.heap.size ≤ q ∧ S33 w' q 4294967295 ∧ Below w.heap.size w w' :=
  new_of 33 33 32 3988292384 4294967295 true _ 4294967295 rfl (fun j => lt32 _) (fun a b => by simp only [r8_ofNat_xor, BitVec.toNat_xor]) (fun b hb w => movedOf_low 33 32 4294967295 q32 b hb w) ruleOf_33 w hR

set_option maxRecDepth 20000 in
set_option maxHeartbeats 800000 in
theorem new_none (k : Int) (h8 : ¬ 8 = k) (h16 : ¬ 16 = k) (h32 : ¬ 32 = k) (h33 : ¬ 33 = k) (w : World) (hR : RulesAt w) :
    Calls Tryd.prog 17 #[.int .i64 k] w fun e w' => e = .returned (.pointer none) ∧ Below w.heap.size w w' := by
  go_enter Tryd.func17, Tryd.ntmps17
  go_wp2_with fail
  refine (ruleOf_none k h8 h16 h32 h33 w hR).mono ?_
  rintro e w1 ⟨rfl, hB⟩
  have HB : Hid (Below w.heap.size w w1) := hB
  clear hB
  go_wp2
  go_ret
  exact ⟨rfl, HB.out.alloc HB.out.size _⟩

end Go.Proofs.YtdmgkgomldjnhaaDoor
