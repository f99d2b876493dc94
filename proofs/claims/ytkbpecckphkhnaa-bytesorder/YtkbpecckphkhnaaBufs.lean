/- Own text: a slice of bytes that a call has made, whatever mark its row bears: how one byte is appended, and how it is read as a text. -/
import Derived.Test.YtkbpecckphkhnaaMakes
import Derived.Laws.IdiomStrings
import Derived.ArgAppend
namespace Go.Proofs.Ytkbpecckphkhnaa
open Go.RowKit
set_option linter.unusedSimpArgs false
set_option linter.unusedVariables false

/-- Block g, from B on, holds the bytes l, and room up to cap. -/
structure Buf (B : Nat) (w : World) (g cap : Nat) (l : List Nat) : Prop where
  base : B ≤ g
  lt : g < w.heap.size
  room : l.length ≤ cap
  there : ∀ j, j < cap → (w.cell? ⟨g, j, none⟩).isSome = true ∧ w.frozen? ⟨g, j, none⟩ = false
  cells : ∀ j, j < l.length → w.cell? ⟨g, j, none⟩ = some (.int .u8 ((l.getD j 0 : Nat) : Int))

theorem Buf.alloc {B : Nat} {w : World} {g cap : Nat} {l : List Nat} (h : Buf B w g cap l) (o : Obj) : Buf B (w.alloc o) g cap l := by
  have hb : (w.alloc o).heap[g]? = w.heap[g]? := Below.heap_alloc w o g h.lt
  refine ⟨h.base, by have := h.lt; simp; omega, h.room, fun j hj => ?_, fun j hj => ?_⟩
  · rw [World.cell?_of_block (a := ⟨g, j, none⟩) hb, World.frozen?_of_block (a := ⟨g, j, none⟩) hb]
    exact h.there j hj
  · rw [World.cell?_of_block (a := ⟨g, j, none⟩) hb]
    exact h.cells j hj

theorem getD_append_lt (l : List Nat) (b j : Nat) (h : j < l.length) : (l ++ [b]).getD j 0 = l.getD j 0 := by
  rw [List.getD_eq_getElem?_getD, List.getElem?_append_left h, List.getD_eq_getElem?_getD]
theorem getD_append_eq (l : List Nat) (b : Nat) : (l ++ [b]).getD l.length 0 = b := by
  rw [List.getD_eq_getElem?_getD, List.getElem?_append_right (Nat.le_refl _)]
  simp

theorem run_buf_append {B : Nat} {w : World} {g cap : Nat} {l : List Nat} (h : Buf B w g cap l) (hB : B ≤ w.heap.size) (ty : TypeId) (a : Addr) (c b : Nat) (ha : w.cell? (a.add 0) = some (.int .u8 (b : Int))) (hl : l.length < 1000000) :
    ∃ g' cap' w', (Builtin.append_ #[46, 46] ty #[.slice (some ⟨g, 0, none⟩) l.length cap, .slice (some a) 1 c]).run Try.prog w = .ok (.slice (some ⟨g', 0, none⟩) (l.length + 1) cap') w' ∧ Buf B w' g' cap' (l ++ [b]) ∧ Below B w w' := by
  obtain ⟨i, hi, hz0, hz1, hz2⟩ := info_parts Try.info5
  have hnews : ∀ j u, [Value.int .u8 (b : Int)][j]? = some u → w.cell? (a.add j) = some u := by
    intro j u hj
    cases j with
    | zero => simp at hj; rw [← hj]; exact ha
    | succ j => simp at hj
  have hone : ∀ u ∈ [Value.int .u8 (b : Int)], u.oneCell' = true := by
    intro u hu
    simp at hu
    subst hu
    rfl
  by_cases hr : l.length + 1 ≤ cap
  · have hrun := run_append_room_cells (P := Try.prog) w 46 ty 5 i Try.underlying46 hi g 0 l.length cap a 1 c [.int .u8 (b : Int)] (by simp [hz1]) hnews hone hr
      (fun j hj => by
        obtain rfl : j = 0 := by simpa using hj
        simpa [hz1] using (h.there l.length (by omega)).1)
      (fun j hj => by
        obtain rfl : j = 0 := by simpa using hj
        simpa [hz1] using (h.there l.length (by omega)).2)
    rw [hz1] at hrun
    simp only [Nat.zero_add, Nat.mul_one, World.setCells] at hrun
    refine ⟨g, cap, _, hrun, ⟨h.base, by have := h.lt; simpa [World.setCell] using this, by simpa using hr, fun j hj => ?_, fun j hj => ?_⟩, ⟨rfl, rfl, rfl, by simp [World.setCell], fun k hk => Below.heap_setCell w _ _ k (by have := h.base; simp; omega)⟩⟩
    · rw [World.frozen?_setCell]
      refine ⟨?_, (h.there j hj).2⟩
      by_cases e : j = l.length
      · subst e
        obtain ⟨u, hu⟩ := Option.isSome_iff_exists.1 (h.there _ hj).1
        rw [World.cell?_setCell_same _ _ _ hu]
        rfl
      · rw [World.cell?_setCell_other _ _ _ _ (by simp <;> omega)]
        exact (h.there j hj).1
    · by_cases e : j = l.length
      · subst e
        obtain ⟨u, hu⟩ := Option.isSome_iff_exists.1 (h.there l.length (by omega)).1
        rw [World.cell?_setCell_same _ _ _ hu, getD_append_eq]
      · have hj' : j < l.length := by simp at hj; omega
        rw [World.cell?_setCell_other _ _ _ _ (by simp <;> omega), getD_append_lt l b j hj']
        exact h.cells j hj'
  · obtain ⟨v', w', hrun, r1, r2⟩ := run_append_arg_grows (P := Try.prog) w 46 ty 5 i (.int .u8 0) 1 1 Try.underlying46 hi hz0 hz1 hz2 rfl (by decide) ⟨g, 0, none⟩ l.length cap (l.map fun (x : Nat) => Value.int .u8 (x : Int)) (by simp)
      (fun j u hj => by
        have hjl : j < l.length := by
          have := (List.getElem?_eq_some_iff.1 hj).1
          simpa using this
        rw [Addr.add_lit, Nat.zero_add, h.cells j hjl]
        simp [List.getElem?_eq_getElem hjl] at hj
        rw [← hj, List.getD_eq_getElem?_getD, List.getElem?_eq_getElem hjl]
        rfl) a 1 c [.int .u8 (b : Int)] (by simp) hnews (by omega) (by simp [maxLen]; omega) (by omega)
    rcases r1.2 with ⟨_, hn⟩ | ⟨g', cap', cur, hv, hg', hblk, hnc, hcm, hcs, htake⟩
    · omega
    · subst hv
      simp only [Nat.mul_one] at hcs htake
      refine ⟨g', cap', w', hrun, ⟨by omega, lt_of_block hblk, by simpa using hnc, fun j hj => ?_, fun j hj => ?_⟩, ⟨r2.os, r2.tape, r2.output, r2.size, fun k hk => r2.block k (by omega) (by simp)⟩⟩
      · constructor
        · simp [World.cell?, hblk, hcs, hj]
        · simp [World.frozen?, hblk]
      · have hj2 : j < l.length + 1 := by simpa using hj
        have e1 : cur[j]? = (l.map (fun (x : Nat) => Value.int .u8 (x : Int)) ++ [Value.int .u8 (b : Int)])[j]? := by
          rw [← htake, List.getElem?_take_of_lt hj2, Array.getElem?_toList]
        have e2 : w'.cell? ⟨g', j, none⟩ = cur[j]? := by simp [World.cell?, hblk]
        rw [e2, e1]
        by_cases e : j = l.length
        · subst e
          rw [getD_append_eq, List.getElem?_append_right (by simp)]
          simp
        · have hj' : j < l.length := by omega
          rw [getD_append_lt l b j hj', List.getElem?_append_left (by simpa using hj'), List.getElem?_map, List.getElem?_eq_getElem hj', List.getD_eq_getElem?_getD, List.getElem?_eq_getElem hj']
          rfl

theorem wpList_buf {w : World} {ops : Array Oper} {rest : List Oper} {o : Oper} {a : Act} {Q : Exit → Act → World → Prop} (hgd : o.guard = none) (s x : Operand)
    (ho : o.op = .call { callee := .builtin .append, args := #[s, x], argTypes := #[46, 46] })
    {B g cap : Nat} {l : List Nat} (n : Nat) (hn : n = l.length) (hs : a.eval s = .slice (some ⟨g, 0, none⟩) n cap) (h : Buf B w g cap l) (hB : B ≤ w.heap.size) (ad : Addr) (c b : Nat) (hx : a.eval x = .slice (some ad) 1 c)
    (ha : w.cell? (ad.add 0) = some (.int .u8 (b : Int))) (hl : l.length < 1000000)
    (hk : ∀ g' cap' w', Buf B w' g' cap' (l ++ [b]) → Below B w w' → wpList Try.prog ops Q rest (a.put o.dst (.slice (some ⟨g', 0, none⟩) (n + 1) cap')) w') : wpList Try.prog ops Q (o :: rest) a w := by
  subst hn
  refine wpList_plain hgd fun K hK => ?_
  obtain ⟨g', cap', w', hrun, r1, r2⟩ := run_buf_append h hB o.type ad c b ha hl
  unfold Oper.wp
  simp [execOp, ho, resolve, invoke, builtin, hs, hx, hrun, Result.andThen]
  exact hK _ _ (hk g' cap' w' r1 r2)

/-- The bytes of a text. -/
theorem run_buf_make (w : World) (l : List Nat) (hl : ∀ b ∈ l, b < 256) :
    ∃ cap w', (convert 9 46 (.string (textOf l))).run Try.prog w = .ok (.slice (some ⟨w.heap.size, 0, none⟩) l.length cap) w' ∧ Buf w.heap.size w' w.heap.size cap l ∧ Below w.heap.size w w' := by
  have hrun := run_bytes_of_string (P := Try.prog) w 9 46 5 (textOf l) Try.underlying9 Try.underlying46 Try.underlying5
  rw [textOf_size] at hrun
  have hge := grownCap_ge w l.length 0 5
  generalize grownCap w l.length 0 5 = cap at *
  have hsz : (bytesRow (textOf l) cap).size = cap := by
    have : (textOf l).data.size = l.length := textOf_size l
    simp [bytesRow, this, textOf_size]
    omega
  rw [hsz] at hrun
  refine ⟨cap, _, hrun, ⟨Nat.le_refl _, by simp, hge, fun j hj => ?_, fun j hj => ?_⟩, ⟨rfl, rfl, rfl, by simp, fun k hk => Below.heap_alloc w.drew _ k hk⟩⟩
  · have hf := World.frozen?_alloc_mark w.drew (bytesRow (textOf l) cap) 5 cap (cap + 1) j
    have hc := World.cell?_alloc_mark w.drew (bytesRow (textOf l) cap) 5 (cap, cap + 1) j
    constructor
    · have : ((w.drew.alloc (.cells (bytesRow (textOf l) cap) 5 (cap, cap + 1))).cell? ⟨w.heap.size, j, none⟩) = (bytesRow (textOf l) cap)[j]? := hc
      rw [this, Array.getElem?_eq_getElem (by omega)]
      rfl
    · have : ((w.drew.alloc (.cells (bytesRow (textOf l) cap) 5 (cap, cap + 1))).frozen? ⟨w.heap.size, j, none⟩) = (decide (cap ≤ j) && decide (j < cap + 1)) := hf
      rw [this]
      simp
      omega
  · have hc := World.cell?_alloc_mark w.drew (bytesRow (textOf l) cap) 5 (cap, cap + 1) j
    have h1 : ((w.drew.alloc (.cells (bytesRow (textOf l) cap) 5 (cap, cap + 1))).cell? ⟨w.heap.size, j, none⟩) = (bytesRow (textOf l) cap)[j]? := hc
    have hd : j < (textOf l).data.size := by
      have : (textOf l).data.size = l.length := textOf_size l
      omega
    rw [h1, bytesRow_at (textOf l) cap j hd]
    have hb := bytesOf_get (textOf l) j (by rw [textOf_size]; exact hj)
    have hbl := bytesOf_textOf l hl
    have h2 : ((textOf l).data[j]'hd).toNat = l.getD j 0 := by
      have e : ((textOf l).data[j]'hd).toNat = ((textOf l)[j]'(by rw [textOf_size]; exact hj)).toNat := rfl
      rw [e, ← hb, List.getD_eq_getElem?_getD, List.getElem?_eq_getElem hj]
      simp [hbl]
    rw [h2]

/-- .. and back. -/
theorem run_buf_text {B : Nat} {w : World} {g cap : Nat} {l : List Nat} (h : Buf B w g cap l) (n : Nat) (hn : n = l.length) : (convert 46 9 (.slice (some ⟨g, 0, none⟩) n cap)).run Try.prog w = .ok (.string (textOf l)) w := by
  subst hn
  rw [textOf_eq]
  refine run_convert_bytes_arg w 46 5 Try.underlying46 Try.underlying5 g 0 l.length cap _ (by simp) (fun i hi => ?_) 9 Try.underlying9
  rw [Nat.zero_add, h.cells i hi]
  simp [List.getD, hi]

end Go.Proofs.Ytkbpecckphkhnaa
