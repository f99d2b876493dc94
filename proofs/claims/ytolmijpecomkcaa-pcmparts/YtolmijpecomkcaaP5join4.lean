/- Own text: the document's Join, what its second half goes by. -/
import Derived.Test.YtolmijpecomkcaaP5join3
import Derived.Test.YtolmijpecomkcaaQ5join
namespace Go.Proofs.Ytolmijpecomkcaa
open Go.RowKit
set_option linter.unusedSimpArgs false
set_option linter.unusedVariables false

theorem OwnMat.lower {E : TypeId} {B B' : Nat} {w : World} {v : Value} {vs : List Value} {xs : List (List Int)} (h : OwnMat E B w v vs xs) (hB : B' ≤ B) : OwnMat E B' w v vs xs := by
  have ho : ∀ {e : TypeId} {x : Value} {n : Nat} {ys : List Value}, w.ownsRow B e 1 x n ys → w.ownsRow B' e 1 x n ys := fun {e x n ys} hx => by
    rcases hx with ⟨h1, h2⟩
    refine ⟨h1, ?_⟩
    rcases h2 with h2 | ⟨g, c, cur, q1, q2, q3⟩
    · exact .inl h2
    · exact .inr ⟨g, c, cur, q1, Nat.le_trans hB q2, q3⟩
  exact ⟨ho h.outer, fun i hi => ho (h.inner i hi), h.apart, h.aside⟩

/-- The parts as they must be. -/
theorem part_zero (p0 p : Pcm) (h : partE p0 p = 0) : checkN p = 0 ∧ p.rate = p0.rate ∧ p.ch = p0.ch ∧ p.wd = p0.wd := by
  unfold partE at h
  by_cases hc : checkN p = 0
  · rw [if_pos hc] at h
    by_cases hq : p.rate = p0.rate ∧ p.ch = p0.ch ∧ p.wd = p0.wd
    · exact ⟨hc, hq⟩
    · rw [if_neg hq] at h
      cases h
  · rw [if_neg hc] at h
    exact absurd h hc

/-- The planes behind i parts, and of the next part the first k planes. -/
def jx (ps : List Pcm) (C i k : Nat) : List (List Int) := (List.range C).map fun j => joinL (ps.take (if j < k then i + 1 else i)) j
theorem jx_len (ps : List Pcm) (C i k : Nat) : (jx ps C i k).length = C := by simp [jx]
theorem jx_get (ps : List Pcm) (C i k j : Nat) (hj : j < C) : (jx ps C i k).getD j [] = joinL (ps.take (if j < k then i + 1 else i)) j := by
  unfold jx
  rw [List.getD_eq_getElem?_getD, List.getElem?_map, List.getElem?_range hj]
  rfl
theorem jx_step (ps : List Pcm) (C i k : Nat) (p : Pcm) (hk : k < C) (hp : ps[i]? = some p) : jx ps C i (k + 1) = (jx ps C i k).set k ((jx ps C i k).getD k [] ++ p.pl.getD k []) := by
  refine list_ext _ _ [] (by rw [List.length_set, jx_len, jx_len]) (fun j hj => ?_)
  rw [jx_len] at hj
  rw [jx_get _ _ _ _ _ hj]
  by_cases e : k = j
  · subst e
    rw [getD_set_eq _ _ _ _ (by rw [jx_len]; exact hj), jx_get _ _ _ _ _ hj, if_pos (by omega), if_neg (by omega)]
    exact joinL_take ps i p hp k
  · rw [getD_set_ne _ _ _ _ _ e, jx_get _ _ _ _ _ hj]
    by_cases q : j < k
    · rw [if_pos q, if_pos (by omega)]
    · rw [if_neg q, if_neg (by omega)]
theorem jx_next (ps : List Pcm) (C i : Nat) : jx ps C i C = jx ps C (i + 1) 0 := by
  refine list_ext _ _ [] (by rw [jx_len, jx_len]) (fun j hj => ?_)
  rw [jx_len] at hj
  rw [jx_get _ _ _ _ _ hj, jx_get _ _ _ _ _ hj, if_pos hj, if_neg (Nat.not_lt_zero _)]
theorem jx_first (ps : List Pcm) (C : Nat) (p0 : Pcm) (h0 : ps[0]? = some p0) (hC : p0.pl.length = C) : jx ps C 1 0 = p0.pl := by
  refine list_ext _ _ [] (by rw [jx_len, hC]) (fun j hj => ?_)
  rw [jx_len] at hj
  rw [jx_get _ _ _ _ _ hj, if_neg (Nat.not_lt_zero _)]
  have := joinL_take ps 0 p0 h0 j
  rw [Nat.zero_add] at this
  rw [this]
  simp [joinL]
theorem jx_last (ps : List Pcm) (C : Nat) : jx ps C ps.length 0 = (List.range C).map (joinL ps) := by
  unfold jx
  apply List.map_congr_left
  intro j hj
  rw [if_neg (Nat.not_lt_zero _), List.take_length]

theorem ints_news {w0 : World} {a : Option Addr} {l : List Int} (h : IntsAt w0 a l) (wx : World) (hb : Below w0.heap.size w0 wx) (ad : Addr) (ha : a = some ad) (j : Nat) (u : Value) (hj : (intsC l)[j]? = some u) : wx.cell? (ad.add j) = some u := by
  have hjl : j < l.length := by
    have := (List.getElem?_eq_some_iff.1 hj).1
    rwa [intsC_length] at this
  rw [intsC, List.getElem?_map, List.getElem?_eq_getElem hjl] at hj
  cases hj
  obtain ⟨b2, off2, e2, hcell2, _, _⟩ := h.at j hjl
  rw [e2] at ha
  cases ha
  rw [Addr.add_mid, hcell2 wx hb, List.getD_eq_getElem?_getD, List.getElem?_eq_getElem hjl]
  rfl

/-- A box with zeros, beside the answer's. -/
structure JZ (w0 : World) (q : Nat) (w : World) : Prop where
  jn : Jn w0 w
  bz : w.heap[q]? = some (.cells zeroP 24 (0, 0))
  lo : w0.heap.size < q
theorem JZ.next {w0 w w1 : World} {q : Nat} (h : JZ w0 q w) (hB : Below w.heap.size w w1) : JZ w0 q w1 := ⟨h.jn.next hB, by rw [hB.block _ (lt_of_block h.bz)]; exact h.bz, h.lo⟩
theorem JZ.new {w0 w : World} (h : Jn w0 w) : JZ w0 w.heap.size (w.alloc (.cells zeroP 24)) := ⟨h.next ((Below.refl _ _).alloc (Nat.le_refl _) _), heap_alloc_new _ _, lt_of_block h.res⟩
theorem JZ.c0 {w0 w : World} {q : Nat} (h : JZ w0 q w) : w.cell? ⟨q, 0, none⟩ = some (.int .i64 0) := by rw [cell_of_row _ _ _ _ _ _ h.bz]; rfl
theorem JZ.c1 {w0 w : World} {q : Nat} (h : JZ w0 q w) : w.cell? ⟨q, 1, none⟩ = some (.int .i64 0) := by rw [cell_of_row _ _ _ _ _ _ h.bz]; rfl
theorem JZ.c2 {w0 w : World} {q : Nat} (h : JZ w0 q w) : w.cell? ⟨q, 2, none⟩ = some (.int .i64 0) := by rw [cell_of_row _ _ _ _ _ _ h.bz]; rfl
theorem JZ.c3 {w0 w : World} {q : Nat} (h : JZ w0 q w) : w.cell? ⟨q, 3, none⟩ = some (.slice none 0 0) := by rw [cell_of_row _ _ _ _ _ _ h.bz]; rfl
theorem JZ.z {w0 w : World} {q : Nat} (h : JZ w0 q w) (j : Nat) : w.frozen? ⟨q, j, none⟩ = false := by
  have hrs := h.bz
  simp [World.frozen?, hrs]

/-- What Cut hands out, apart from the box at q. -/
structure CutAt (w0 : World) (p0 : Pcm) (q g cap : Nat) (vs : List Value) (w : World) : Prop where
  mat : OwnMat 45 (w0.heap.size + 1) w (.slice (some ⟨g, 0, none⟩) p0.pl.length cap) vs p0.pl
  gq : g ≠ q
  far : ∀ k, k < p0.pl.length → (vs.getD k noS).ownBlock ≠ some q
theorem CutAt.new {w0 w : World} {p0 : Pcm} {g cap : Nat} {vs : List Value} (h : OwnMat 45 (w0.heap.size + 1) w (.slice (some ⟨g, 0, none⟩) p0.pl.length cap) vs p0.pl) : CutAt w0 p0 w.heap.size g cap vs (w.alloc (.cells zeroP 24)) := by
  refine ⟨h.next ((Below.refl _ _).alloc (Nat.le_refl _) _), ?_, fun k hk e => ?_⟩
  · have := h.outer.lt g rfl
    omega
  · have := (h.inner k hk).lt _ e
    omega
/-- The PCM that grows lies in its box. -/
theorem Jo.of {w0 w : World} {p0 : Pcm} {q g cap : Nat} {vs : List Value} (h : JZ w0 q w) (hc : CutAt w0 p0 q g cap vs w) :
    Jo w0 p0 q g p0.pl.length cap vs p0.pl ((((w.setCell ⟨q, 0, none⟩ (.int .i64 p0.rate)).setCell ⟨q, 1, none⟩ (.int .i64 p0.ch)).setCell ⟨q, 2, none⟩ (.int .i64 p0.wd)).setCell ⟨q, 3, none⟩ (.slice (some ⟨g, 0, none⟩) p0.pl.length cap)) := by
  have hl := h.lo
  have hso : ∀ (w1 : World) (j : Nat) (u : Value), OwnMat 45 (w0.heap.size + 1) w1 (.slice (some ⟨g, 0, none⟩) p0.pl.length cap) vs p0.pl → OwnMat 45 (w0.heap.size + 1) (w1.setCell ⟨q, j, none⟩ u) (.slice (some ⟨g, 0, none⟩) p0.pl.length cap) vs p0.pl := fun w1 j u hm =>
    ⟨by refine ownsRow_setCell_other hm.outer ?_ _; intro e; exact hc.gq (Option.some.inj e), fun i hi => ownsRow_setCell_other (hm.inner i hi) (hc.far i hi) _, hm.apart, hm.aside⟩
  refine ⟨?_, ?_, hso _ _ _ (hso _ _ _ (hso _ _ _ (hso _ _ _ hc.mat))), rfl, hc.far, hc.gq, h.lo, ?_⟩
  · rw [Below.heap_setCell _ _ _ _ (by show w0.heap.size ≠ q; omega), Below.heap_setCell _ _ _ _ (by show w0.heap.size ≠ q; omega), Below.heap_setCell _ _ _ _ (by show w0.heap.size ≠ q; omega), Below.heap_setCell _ _ _ _ (by show w0.heap.size ≠ q; omega)]
    exact h.jn.res
  · rw [block_set _ _ _ _ _ _ (block_set _ _ _ _ _ _ (block_set _ _ _ _ _ _ (block_set _ _ _ _ _ _ h.bz)))]
    rfl
  · exact (((h.jn.below.setCell (by show w0.heap.size ≤ q; omega) _).setCell (by show w0.heap.size ≤ q; omega) _).setCell (by show w0.heap.size ≤ q; omega) _).setCell (by show w0.heap.size ≤ q; omega) _
theorem Jo.of1 {w0 w : World} {p0 : Pcm} {g cap : Nat} {vs : List Value} (h : Jn w0 w) (hm : OwnMat 45 (w0.heap.size + 1) w (.slice (some ⟨g, 0, none⟩) p0.pl.length cap) vs p0.pl) :
    Jo w0 p0 w.heap.size g p0.pl.length cap vs p0.pl (w.alloc (.cells #[.int .i64 p0.rate, .int .i64 p0.ch, .int .i64 p0.wd, .slice (some ⟨g, 0, none⟩) p0.pl.length cap] 24)) := by
  have hB : Below w.heap.size w (w.alloc (.cells #[.int .i64 p0.rate, .int .i64 p0.ch, .int .i64 p0.wd, .slice (some ⟨g, 0, none⟩) p0.pl.length cap] 24)) := (Below.refl _ _).alloc (Nat.le_refl _) _
  have hj := h.next hB
  exact ⟨hj.res, heap_alloc_new _ _, hm.next hB, rfl, fun k hk e => by have := (hm.inner k hk).lt _ e; omega, by have := hm.outer.lt g rfl; omega, lt_of_block h.res, hj.below⟩
theorem Jo.grown {w0 w w1 : World} {p0 : Pcm} {q g n cap : Nat} {vs : List Value} {xs : List (List Int)} (h : Jo w0 p0 q g n cap vs xs w) (k : Nat) (hk : k < n) (hg : w.grownBy w1 (vs.getD k noS).ownBlock) : Below w0.heap.size w0 w1 :=
  grown_to hg h.below h.below.size (fun j e => by have := ((h.mat.inner k (by rw [h.len]; exact hk)).lt j e).1; omega)

end Go.Proofs.Ytolmijpecomkcaa
