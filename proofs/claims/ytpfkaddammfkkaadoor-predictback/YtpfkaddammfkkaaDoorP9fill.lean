/- Own text: rows that a call makes and fills, number by number. -/
import Derived.Test.YtpfkaddammfkkaaDoorP9mem
import Derived.Deep.OwnRows
namespace Go.Proofs.YtpfkaddammfkkaaDoor
open Go.RowKit
set_option linter.unusedSimpArgs false
set_option linter.unusedVariables false

theorem make_ints (n : Nat) (hn : n ≤ 17592186044415) (w : World) : (Instr.makeSlice 22 (.int .i64 (n : Int)) (.int .i64 (n : Int))).run Tryd.prog w = .ok (.slice (some ⟨w.heap.size, 0, none⟩) n n) (w.alloc (.cells (madeCells #[.int .i64 0] n) 3)) := by
  obtain ⟨i, h1, h2, h3, h4⟩ := int_info
  have hh := run_make (P := Tryd.prog) w 22 3 i _ undI3 h1 h2 .i64 .i64 (n : Int) (n : Int) (by omega) (Int.le_refl _) (by rw [h4]; omega) (by omega)
  rw [h3] at hh
  simpa [Value.cells] using hh
/-- A row of numbers in memory: the first i are those of L, the rest 0. -/
structure Fill (w : World) (g : Nat) (L : List Int) (i : Nat) (wx : World) : Prop where
  row : ∃ cs : Array Value, wx.heap[g]? = some (.cells cs 3 (0, 0)) ∧ ∀ j, j < L.length → cs[j]? = some (.int .i64 (if j < i then L.getD j 0 else 0))
  below : Below w.heap.size w wx
  le : w.heap.size ≤ g
section
variable {w wx w' : World} {g : Nat} {L : List Int} {i : Nat}
theorem Fill.made (w wx : World) (hb : Below w.heap.size w wx) (L : List Int) : Fill w wx.heap.size L 0 (wx.alloc (.cells (madeCells #[.int .i64 0] L.length) 3)) := by
  refine ⟨⟨_, heap_alloc_new _ _, fun j hj => ?_⟩, hb.alloc hb.size _, hb.size⟩
  rw [if_neg (Nat.not_lt_zero _)]
  simp only [madeCells, Array.getElem?_map, Array.getElem?_range, hj, if_true, Option.map_some]
  have hs : (#[.int .i64 0] : Array Value).size = 1 := rfl
  rw [hs, Nat.mod_one]
  rfl
theorem Fill.lt (h : Fill w g L i wx) : g < wx.heap.size := by obtain ⟨cs, h1, _⟩ := h.row; exact lt_of_block h1
theorem Fill.low (h : Fill w g L i wx) (hb : Below wx.heap.size wx w') : Fill w g L i w' := by
  obtain ⟨cs, h1, h2⟩ := h.row
  exact ⟨⟨cs, by rw [hb.block _ (lt_of_block h1)]; exact h1, h2⟩, h.below.trans (hb.mono h.below.size), h.le⟩
theorem Fill.drew (h : Fill w g L i wx) : Fill w g L i wx.drew := h.low ⟨rfl, rfl, rfl, Nat.le_refl _, fun _ _ => rfl⟩
theorem Fill.cell (h : Fill w g L i wx) (j : Nat) (hj : j < L.length) : wx.cell? ⟨g, j, none⟩ = some (.int .i64 (if j < i then L.getD j 0 else 0)) := by
  obtain ⟨cs, h1, h2⟩ := h.row
  rw [cell_row h1]; exact h2 j hj
theorem Fill.frozen (h : Fill w g L i wx) (j : Nat) : wx.frozen? ⟨g, j, none⟩ = false := by
  obtain ⟨cs, h1, _⟩ := h.row
  simp [World.frozen?, h1]
theorem Fill.set (h : Fill w g L i wx) (hi : i < L.length) : Fill w g L (i + 1) (wx.setCell ⟨g, i, none⟩ (.int .i64 (L.getD i 0))) := by
  obtain ⟨cs, h1, h2⟩ := h.row
  refine ⟨⟨cs.setIfInBounds i (.int .i64 (L.getD i 0)), heap_setCell_same _ _ _ _ _ _ h1, fun j hj => ?_⟩, h.below.setCell h.le _, h.le⟩
  rw [Array.getElem?_setIfInBounds]
  by_cases e : i = j
  · subst e
    have hlt : i < cs.size := by
      rcases Nat.lt_or_ge i cs.size with h3 | h3
      · exact h3
      · have := h2 i hi; rw [Array.getElem?_eq_none h3] at this; cases this
    rw [if_pos rfl, if_pos hlt, if_pos (by omega)]
  · rw [if_neg e, h2 j hj]
    by_cases e2 : j < i
    · rw [if_pos e2, if_pos (by omega)]
    · rw [if_neg e2, if_neg (by omega)]
theorem Fill.other (h : Fill w g L i wx) (p : Addr) (u : Value) (hp : p.block ≠ g) (hl : w.heap.size ≤ p.block) : Fill w g L i (wx.setCell p u) := by
  obtain ⟨cs, h1, h2⟩ := h.row
  exact ⟨⟨cs, by rw [Below.heap_setCell wx p u g (fun e => hp e.symm)]; exact h1, h2⟩, h.below.setCell hl _, h.le⟩
theorem Fill.ints (h : Fill w g L L.length wx) (hl : L.length ≤ 17592186044415) (hn : Rng L) : IntsAt wx (some ⟨g, 0, none⟩) L :=
  ⟨hl, hn, fun _ => ⟨g, 0, rfl, fun j hj => by rw [Nat.zero_add, h.cell j hj, if_pos hj]⟩⟩
end
theorem getD_shr (l : List Int) (k j : Nat) : (shrL l k).getD j 0 = l.getD j 0 / 2 ^ k := by
  unfold shrL
  rw [List.getD_eq_getElem?_getD, List.getD_eq_getElem?_getD, List.getElem?_map]
  cases l[j]? with
  | none => simp
  | some x => rfl
theorem getD_shl (l : List Int) (k j : Nat) : (shlL l k).getD j 0 = wrap64 (l.getD j 0 * 2 ^ k) := by
  unfold shlL
  rw [List.getD_eq_getElem?_getD, List.getD_eq_getElem?_getD, List.getElem?_map]
  cases l[j]? with
  | none => simp [wrap64]
  | some x => rfl
/-- A part of a list foretells as the list does. -/
theorem foreS_part (C l : List Int) (i n k : Nat) (hk : k ≤ n) : foreS C ((l.drop i).take n) n k = foreS C l (i + n) k := by
  induction k with
  | zero => rfl
  | succ k ih =>
    unfold foreS
    rw [ih (by omega), getD_part l i n (n - 1 - k) (by omega), show i + (n - 1 - k) = i + n - 1 - k by omega]
theorem foreN_part (C : List Int) (sh : Nat) (l : List Int) (i : Nat) : foreN C sh ((l.drop i).take C.length) C.length = foreN C sh l (i + C.length) := by
  unfold foreN; rw [foreS_part C l i C.length C.length (Nat.le_refl _)]

end Go.Proofs.YtpfkaddammfkkaaDoor
