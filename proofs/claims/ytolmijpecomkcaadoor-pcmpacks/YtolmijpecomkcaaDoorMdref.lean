/- Own text: the walks of the document's digest: its table, its turns, a step's f and g. -/
import Derived.Test.YtolmijpecomkcaaDoorRefbytes
import Derived.Test.YtolmijpecomkcaaDoorMdplain
namespace Go.Proofs.YtolmijpecomkcaaDoor
open Go.RowKit
set_option linter.unusedSimpArgs false
set_option linter.unusedVariables false

set_option maxRecDepth 20000 in
set_option maxHeartbeats 1600000 in
theorem table_spec (w : World) :
    Calls Tryd.prog 58 #[] w fun e w' => e = .returned (.slice (some ⟨w.heap.size, 0, none⟩) 64 64) ∧ w' = w.alloc (.cells (kL.map fun (n : Nat) => Value.int .u32 (n : Int)).toArray 72) := by
  go_enter Tryd.func58, Tryd.ntmps58
  go_wp2
  go_ret
  exact ⟨rfl, rfl⟩

section
variable {P : Program} {ops : Array Oper} {rest : List Oper} {Q : Exit → Act → World → Prop} {a : Act} {w : World}

/-- One cell is loaded. -/
theorem wpList_load_cell (t : TypeId) {dst : Option Tmp} {x : Operand} {ty : TypeId} {pos : String} {after : Array Edge} (b o : Nat) (v : Value) (ht : ∀ w, (isAgg t).run P w = .ok false w)
    (hx : a.eval x = .pointer (some ⟨b, o, none⟩)) (hb : w.cell? ⟨b, o, none⟩ = some v) (h : wpList P ops Q rest (a.put dst v) w) :
    wpList P ops Q (⟨dst, .load t x, ty, pos, after, none⟩ :: rest) a w := by
  refine wpList_plain rfl fun K hK => ?_
  unfold Oper.wp
  simp only [execOp, hx, Instr.loadAt, Instr.sureAddr, Sem.run_bind, Sem.run_pure, Result.andThen_ok, loadVar, ht, run_load, hb, Bool.false_eq_true, if_false]
  exact hK _ _ h
end

theorem q_all : ∀ i : Fin 64, i.val / 16 * 4 + i.val % 4 < 16 := by decide +kernel

theorem turn_cell_all (i : Nat) (hi : i < 64) : (#[Value.int .u64 7, .int .u64 12, .int .u64 17, .int .u64 22, .int .u64 5, .int .u64 9, .int .u64 14, .int .u64 20, .int .u64 4, .int .u64 11, .int .u64 16, .int .u64 23, .int .u64 6, .int .u64 10, .int .u64 15, .int .u64 21] : Array Value)[i / 16 * 4 + i % 4]? = some (.int .u64 (turnOf i : Int)) := by
  have hq := q_all ⟨i, hi⟩
  simp only at hq
  have e : (#[Value.int .u64 7, .int .u64 12, .int .u64 17, .int .u64 22, .int .u64 5, .int .u64 9, .int .u64 14, .int .u64 20, .int .u64 4, .int .u64 11, .int .u64 16, .int .u64 23, .int .u64 6, .int .u64 10, .int .u64 15, .int .u64 21] : Array Value) = (rL.map fun (n : Nat) => Value.int .u64 (n : Int)).toArray := rfl
  rw [e]
  unfold turnOf
  generalize i / 16 * 4 + i % 4 = j at *
  have hl : j < rL.length := hq
  rw [List.getElem?_toArray, List.getElem?_map, List.getElem?_eq_getElem hl, List.getD_eq_getElem?_getD, List.getElem?_eq_getElem hl]
  rfl

theorem turn_cell (i : Nat) (hi : i < 64) (w : World) : (w.alloc (.cells #[.int .u64 7, .int .u64 12, .int .u64 17, .int .u64 22, .int .u64 5, .int .u64 9, .int .u64 14, .int .u64 20, .int .u64 4, .int .u64 11, .int .u64 16, .int .u64 23, .int .u64 6, .int .u64 10, .int .u64 15, .int .u64 21] 56)).cell? ⟨w.heap.size, i / 16 * 4 + i % 4, none⟩ = some (.int .u64 (turnOf i : Int)) := by
  rw [cell_of_row _ _ _ _ _ _ (heap_alloc_new w _)]
  exact turn_cell_all i hi

set_option maxRecDepth 20000 in
set_option maxHeartbeats 1600000 in
theorem turns_spec (i : Nat) (hi : i < 64) (w : World) :
    Calls Tryd.prog 61 #[.int .i64 (i : Int)] w fun e w' => e = .returned (.int .u64 (turnOf i : Int)) ∧ Below w.heap.size w w' := by
  have hq := q_all ⟨i, hi⟩
  simp only at hq
  have hc2 := turn_cell i hi w
  go_enter Tryd.func61, Tryd.ntmps61
  go_wp2_with (refine wpList_load_cell 56 w.heap.size (i / 16 * 4 + i % 4) _ Tryd.isAgg39 rfl hc2 ?_)
  go_ret
  exact ⟨rfl, (Below.refl _ _).alloc (Nat.le_refl _) _⟩

theorem m_not' (x : BitVec 32) : bits .xor .u32 IntKind.u32.max (x.toNat : Int) = ((~~~x).toNat : Int) := by
  have h := u32_xor_nat 4294967295 x.toNat (by decide) x.isLt
  have e : IntKind.u32.max = ((4294967295 : Nat) : Int) := by decide
  rw [e, h, ← BitVec.allOnes_xor, BitVec.toNat_xor]
  rfl

set_option maxRecDepth 20000 in
set_option maxHeartbeats 1600000 in
theorem mix_0 (i : Nat) (hi : i < 64) (h : i / 16 = 0) (b c d : BitVec 32) (w : World) :
    Calls Tryd.prog 59 #[.int .i64 (i : Int), .int .u32 (b.toNat : Int), .int .u32 (c.toNat : Int), .int .u32 (d.toNat : Int)] w fun e w' => e = .returned (.tuple #[.int .u32 (((b &&& c) ||| (~~~b &&& d)).toNat : Int), .int .i64 ((i : Nat) : Int)]) ∧ w' = w := by
  have f1 := m_and b c
  have f2 := m_not' b
  have f3 := m_and (~~~b) d
  have f4 := m_or (b &&& c) (~~~b &&& d)
  generalize ((b &&& c) ||| (~~~b &&& d)).toNat = n4 at *
  generalize (b &&& c).toNat = n1 at *
  generalize (~~~b &&& d).toNat = n3 at *
  generalize (~~~b).toNat = n2 at *
  generalize b.toNat = nb at *
  generalize c.toNat = nc at *
  generalize d.toNat = nd at *
  have hq : (i : Int) / 16 = 0 := by omega
  clear h
  go_enter Tryd.func59, Tryd.ntmps59
  go_wp2
  go_ret2
  exact ⟨rfl, rfl⟩

set_option maxRecDepth 20000 in
set_option maxHeartbeats 1600000 in
theorem mix_1 (i : Nat) (hi : i < 64) (h : i / 16 = 1) (b c d : BitVec 32) (w : World) :
    Calls Tryd.prog 59 #[.int .i64 (i : Int), .int .u32 (b.toNat : Int), .int .u32 (c.toNat : Int), .int .u32 (d.toNat : Int)] w fun e w' => e = .returned (.tuple #[.int .u32 (((d &&& b) ||| (~~~d &&& c)).toNat : Int), .int .i64 (((5 * i + 1) % 16 : Nat) : Int)]) ∧ w' = w := by
  have f1 := m_and d b
  have f2 := m_not' d
  have f3 := m_and (~~~d) c
  have f4 := m_or (d &&& b) (~~~d &&& c)
  generalize ((d &&& b) ||| (~~~d &&& c)).toNat = n4 at *
  generalize (d &&& b).toNat = n1 at *
  generalize (~~~d &&& c).toNat = n3 at *
  generalize (~~~d).toNat = n2 at *
  generalize b.toNat = nb at *
  generalize c.toNat = nc at *
  generalize d.toNat = nd at *
  have hq : (i : Int) / 16 = 1 := by omega
  have hg : (5 * (i : Int) + 1) % 16 = (((5 * i + 1) % 16 : Nat) : Int) := by omega
  generalize (5 * i + 1) % 16 = g at *
  clear h
  go_enter Tryd.func59, Tryd.ntmps59
  go_wp2
  go_ret2
  exact ⟨rfl, rfl⟩

set_option maxRecDepth 20000 in
set_option maxHeartbeats 1600000 in
theorem mix_2 (i : Nat) (hi : i < 64) (h : i / 16 = 2) (b c d : BitVec 32) (w : World) :
    Calls Tryd.prog 59 #[.int .i64 (i : Int), .int .u32 (b.toNat : Int), .int .u32 (c.toNat : Int), .int .u32 (d.toNat : Int)] w fun e w' => e = .returned (.tuple #[.int .u32 ((b ^^^ c ^^^ d).toNat : Int), .int .i64 (((3 * i + 5) % 16 : Nat) : Int)]) ∧ w' = w := by
  have f1 := m_xor b c
  have f2 := m_xor (b ^^^ c) d
  generalize (b ^^^ c ^^^ d).toNat = n4 at *
  generalize (b ^^^ c).toNat = n1 at *
  generalize b.toNat = nb at *
  generalize c.toNat = nc at *
  generalize d.toNat = nd at *
  have hq : (i : Int) / 16 = 2 := by omega
  have hg : (3 * (i : Int) + 5) % 16 = (((3 * i + 5) % 16 : Nat) : Int) := by omega
  generalize (3 * i + 5) % 16 = g at *
  have HG : Hid ((3 * (i : Int) + 5) % 16 = (g : Int)) := hg
  clear h
  go_enter Tryd.func59, Tryd.ntmps59
  go_wp2
  go_ret2
  exact ⟨by rw [← HG.out]; rfl, rfl⟩

set_option maxRecDepth 20000 in
set_option maxHeartbeats 1600000 in
theorem mix_3 (i : Nat) (hi : i < 64) (h : i / 16 = 3) (b c d : BitVec 32) (w : World) :
    Calls Tryd.prog 59 #[.int .i64 (i : Int), .int .u32 (b.toNat : Int), .int .u32 (c.toNat : Int), .int .u32 (d.toNat : Int)] w fun e w' => e = .returned (.tuple #[.int .u32 ((c ^^^ (b ||| ~~~d)).toNat : Int), .int .i64 ((7 * i % 16 : Nat) : Int)]) ∧ w' = w := by
  have f1 := m_not' d
  have f2 := m_or b (~~~d)
  have f3 := m_xor c (b ||| ~~~d)
  generalize (c ^^^ (b ||| ~~~d)).toNat = n4 at *
  generalize (b ||| ~~~d).toNat = n2 at *
  generalize (~~~d).toNat = n1 at *
  generalize b.toNat = nb at *
  generalize c.toNat = nc at *
  generalize d.toNat = nd at *
  have hq : (i : Int) / 16 = 3 := by omega
  have hg : 7 * (i : Int) % 16 = ((7 * i % 16 : Nat) : Int) := by omega
  generalize 7 * i % 16 = g at *
  clear h
  go_enter Tryd.func59, Tryd.ntmps59
  go_wp2
  go_ret2
  exact ⟨rfl, rfl⟩

theorem mix_spec (i : Nat) (hi : i < 64) (b c d : BitVec 32) (w : World) :
    Calls Tryd.prog 59 #[.int .i64 (i : Int), .int .u32 (b.toNat : Int), .int .u32 (c.toNat : Int), .int .u32 (d.toNat : Int)] w fun e w' => e = .returned (.tuple #[.int .u32 ((fOf i b c d).toNat : Int), .int .i64 (gOf i : Int)]) ∧ w' = w := by
  unfold fOf gOf
  by_cases h0 : i / 16 = 0
  · rw [if_pos h0, if_pos h0]
    exact mix_0 i hi h0 b c d w
  · rw [if_neg h0, if_neg h0]
    by_cases h1 : i / 16 = 1
    · rw [if_pos h1, if_pos h1]
      exact mix_1 i hi h1 b c d w
    · rw [if_neg h1, if_neg h1]
      by_cases h2 : i / 16 = 2
      · rw [if_pos h2, if_pos h2]
        exact mix_2 i hi h2 b c d w
      · rw [if_neg h2, if_neg h2]
        exact mix_3 i hi (by omega) b c d w

end Go.Proofs.YtolmijpecomkcaaDoor
