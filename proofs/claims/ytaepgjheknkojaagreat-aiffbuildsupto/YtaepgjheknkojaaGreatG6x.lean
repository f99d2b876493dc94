/- Own text: lists of lists of numbers that a call owns: how they grow. It speaks of no program. lists of lists of numbers that a call owns: one of them is replaced; read as rows. It speaks of no program. the walk of the document's Cut. the walk of the document's Slice. -/
import Derived.Test.YtaepgjheknkojaaGreatG4x
import Derived.ArgAppend
import Derived.Maps.AppendAt
import Derived.Laws.OwnMore
import Derived.OneCell
import Derived.Deep.MidRow
import Derived.Test.YtaepgjheknkojaaGreatG5x
namespace Go.Proofs.YtaepgjheknkojaaGreat
open Go.RowKit
set_option linter.unusedSimpArgs false
set_option linter.unusedVariables false

def intsC (l : List Int) : List Value := l.map fun n => Value.int .i64 n
theorem intsC_length (l : List Int) : (intsC l).length = l.length := by simp [intsC]
theorem intsC_one (l : List Int) : ∀ u ∈ intsC l, u.oneCell' = true := by
  intro u hu
  obtain ⟨n, _, rfl⟩ := List.mem_map.1 hu
  rfl
theorem intsC_append (l m : List Int) : intsC (l ++ m) = intsC l ++ intsC m := by simp [intsC]
abbrev noS : Value := .slice none 0 0

theorem grown_below {w w' : World} (h : Below w.heap.size w w') (row : Option Nat) : w.grownBy w' row := ⟨h.os, h.tape, h.output, h.size, fun k hk _ => h.block k hk⟩
theorem owns_below {w w' : World} {base : Nat} {e : TypeId} {size : Nat} {v : Value} {n : Nat} {xs : List Value} (h : w.ownsRow base e size v n xs) (hB : Below w.heap.size w w') : w'.ownsRow base e size v n xs :=
  h.kept (row := none) (grown_below hB none) (by cases hv : v.ownBlock <;> simp)
theorem grown_to {w w' : World} {row : Option Nat} {B : Nat} {w0 : World} (h : w.grownBy w' row) (hb : Below B w0 w) (hB : B ≤ w.heap.size) (hr : ∀ k, row = some k → B ≤ k) : Below B w0 w' :=
  hb.trans ⟨h.os, h.tape, h.output, h.size, fun k hk => h.block k (Nat.lt_of_lt_of_le hk hB) (fun e => by have := hr k e.symm; omega)⟩

/-- append of any slice to an owned row. -/
theorem run_append_src {P : Program} (w : World) (base : Nat) (t ty e : TypeId) (i : TypeInfo) (z : Value) (bytes : Nat) (ht : P.underlying t = some (.slice e)) (hi : P.info? e = some i) (hz : i.zero = some z)
    (hsize : i.size = 1) (hby : i.bytes = bytes) (hzs : z.cells.size = 1)
    (v : Value) (n : Nat) (xs : List Value) (hown : w.ownsRow base e 1 v n xs)
    (xo : Option Addr) (m c : Nat) (news : List Value) (h0 : xo = none → m = 0 ∧ c = 0) (hl : news.length = m) (hnews : ∀ ad, xo = some ad → ∀ j u, news[j]? = some u → w.cell? (ad.add j) = some u) (h1 : ∀ u ∈ news, u.oneCell' = true)
    (h63 : n + m ≤ maxLen) (hbytes : (n + m) * bytes ≤ 140737488355328) (hbase : base ≤ w.heap.size) :
    ∃ v' w', (Builtin.append_ #[t, t] ty #[v, .slice xo m c]).run P w = .ok v' w' ∧ w'.ownsRow base e 1 v' (n + m) (xs ++ news) ∧ w.grownBy w' v.ownBlock ∧ (v'.ownBlock = v.ownBlock ∨ v'.ownBlock = some w.heap.size) := by
  cases xo with
  | none =>
    obtain ⟨rfl, rfl⟩ := h0 rfl
    obtain rfl : news = [] := List.eq_nil_of_length_eq_zero hl
    refine ⟨v, w, run_append_owned_none w base t ty e i 1 ht hi v n xs hown, ?_, ⟨rfl, rfl, rfl, Nat.le_refl _, fun _ _ _ => rfl⟩, .inl rfl⟩
    rw [List.append_nil]
    exact hown
  | some ad =>
    obtain ⟨v', w', hr, h2, h3, _, h5⟩ := run_append_own_at (P := P) w base t ty e i z 1 bytes ht hi hz hsize hby hzs (by decide) v n xs hown ad m c news (by omega) (hnews ad rfl) h1 h63 hbytes hbase
    exact ⟨v', w', hr, h2, h3, h5⟩

theorem step_append_src {P : Program} (w : World) {ops : Array Oper} {o : Oper} {a : Act} {K : Act → World → Prop} {Q : Exit → Act → World → Prop} {E : Prop} (hgd : o.guard = none) (s x : Operand) (t : TypeId)
    (ho : o.op = .call { callee := .builtin .append, args := #[s, x], argTypes := #[t, t] }) (base : Nat) (e : TypeId) (i : TypeInfo) (z : Value) (bytes : Nat) (ht : P.underlying t = some (.slice e)) (hi : P.info? e = some i) (hz : i.zero = some z)
    (hsize : i.size = 1) (hby : i.bytes = bytes) (hzs : z.cells.size = 1)
    (v : Value) (n : Nat) (xs : List Value) (hs : a.eval s = v) (hown : w.ownsRow base e 1 v n xs)
    (xo : Option Addr) (m c : Nat) (news : List Value) (hx : a.eval x = .slice xo m c) (h0 : xo = none → m = 0 ∧ c = 0) (hl : news.length = m) (hnews : ∀ ad, xo = some ad → ∀ j u, news[j]? = some u → w.cell? (ad.add j) = some u) (h1 : ∀ u ∈ news, u.oneCell' = true)
    (h63 : n + m ≤ maxLen) (hbytes : (n + m) * bytes ≤ 140737488355328) (hbase : base ≤ w.heap.size)
    (h : ∀ v' w', Hid (w'.ownsRow base e 1 v' (n + m) (xs ++ news)) → Hid (w.grownBy w' v.ownBlock) → Hid (v'.ownBlock = v.ownBlock ∨ v'.ownBlock = some w.heap.size) → K (a.put o.dst v') w') :
    if Region.wanted o (yielded ops a.tmps) = true then Oper.wp P o a w K Q else E := by
  have hw : Region.wanted o (yielded ops a.tmps) = true := by simp [Region.wanted, hgd]
  rw [if_pos hw]
  obtain ⟨v', w', hr, h2, h3, h5⟩ := run_append_src (P := P) w base t o.type e i z bytes ht hi hz hsize hby hzs v n xs hown xo m c news h0 hl hnews h1 h63 hbytes hbase
  unfold Oper.wp execOp
  simp only [ho, resolve, invoke, builtin, Sem.run_bind, Sem.run_pure, Result.andThen_ok, List.map_toArray, List.map_cons, List.map_nil, hs, hx, hr]
  exact h v' w' h2 h3 h5

/-- Lists of numbers that a call owns, each apart from the others. -/
structure OwnMat (E : TypeId) (B : Nat) (w : World) (v : Value) (vs : List Value) (xs : List (List Int)) : Prop where
  outer : w.ownsRow B E 1 v xs.length vs
  inner : ∀ i, i < xs.length → w.ownsRow B 3 1 (vs.getD i noS) (xs.getD i []).length (intsC (xs.getD i []))
  apart : ∀ i j, i < xs.length → j < xs.length → i ≠ j → (vs.getD i noS).ownBlock = none ∨ (vs.getD i noS).ownBlock ≠ (vs.getD j noS).ownBlock
  aside : ∀ i, i < xs.length → (vs.getD i noS).ownBlock = none ∨ (vs.getD i noS).ownBlock ≠ v.ownBlock

theorem OwnMat.empty (E : TypeId) (B : Nat) (w : World) : OwnMat E B w noS [] [] :=
  ⟨World.ownsRow_nil w B E 1, fun i hi => absurd hi (Nat.not_lt_zero _), fun i j hi => absurd hi (Nat.not_lt_zero _), fun i hi => absurd hi (Nat.not_lt_zero _)⟩
theorem OwnMat.vlen {E : TypeId} {B : Nat} {w : World} {v : Value} {vs : List Value} {xs : List (List Int)} (h : OwnMat E B w v vs xs) : vs.length = xs.length := by
  have := h.outer.1
  omega
theorem OwnMat.next {E : TypeId} {B : Nat} {w w' : World} {v : Value} {vs : List Value} {xs : List (List Int)} (h : OwnMat E B w v vs xs) (hB : Below w.heap.size w w') : OwnMat E B w' v vs xs :=
  ⟨owns_below h.outer hB, fun i hi => owns_below (h.inner i hi) hB, h.apart, h.aside⟩
theorem OwnMat.kept {E : TypeId} {B : Nat} {w w' : World} {v : Value} {vs : List Value} {xs : List (List Int)} (h : OwnMat E B w v vs xs) {row : Option Nat} (hg : w.grownBy w' row) (h1 : v.ownBlock = Option.none ∨ v.ownBlock ≠ row) (h2 : ∀ i, i < xs.length → (vs.getD i noS).ownBlock = Option.none ∨ (vs.getD i noS).ownBlock ≠ row) : OwnMat E B w' v vs xs :=
  ⟨h.outer.kept hg h1, fun i hi => (h.inner i hi).kept hg (h2 i hi), h.apart, h.aside⟩
/-- A block that is not yet there is none of its own. -/
theorem owns_new {w : World} {base : Nat} {e : TypeId} {size : Nat} {v : Value} {n : Nat} {xs : List Value} (h : w.ownsRow base e size v n xs) {b : Option Nat} (hb : ∀ k, b = some k → w.heap.size ≤ k) : v.ownBlock = Option.none ∨ v.ownBlock ≠ b := by
  cases hv : v.ownBlock with
  | none => exact .inl rfl
  | some k =>
    right
    intro e
    have h1 := (h.lt k hv).2
    have h2 := hb k e.symm
    omega

theorem getD_snoc_lt {α : Type} (l : List α) (x d : α) (i : Nat) (h : i < l.length) : (l ++ [x]).getD i d = l.getD i d := by
  rw [List.getD_eq_getElem?_getD, List.getElem?_append_left h, List.getD_eq_getElem?_getD]
theorem getD_snoc_eq {α : Type} (l : List α) (x d : α) (i : Nat) (h : i = l.length) : (l ++ [x]).getD i d = x := by
  subst h
  rw [List.getD_eq_getElem?_getD, List.getElem?_append_right (Nat.le_refl _)]
  simp

/-- One more list, appended. -/
theorem OwnMat.push {E : TypeId} {B : Nat} {w w' : World} {v v' : Value} {vs : List Value} {xs : List (List Int)} (h : OwnMat E B w v vs xs) {u : Value} {l : List Int} (hu : w.ownsRow B 3 1 u l.length (intsC l))
    (ha : ∀ i, i < xs.length → (vs.getD i noS).ownBlock = Option.none ∨ (vs.getD i noS).ownBlock ≠ u.ownBlock) (hv : u.ownBlock = Option.none ∨ u.ownBlock ≠ v.ownBlock)
    (ho : w'.ownsRow B E 1 v' (xs.length + 1) (vs ++ [u])) (hg : w.grownBy w' v.ownBlock) (hb : v'.ownBlock = v.ownBlock ∨ v'.ownBlock = some w.heap.size) : OwnMat E B w' v' (vs ++ [u]) (xs ++ [l]) := by
  have hvl := h.vlen
  have hnew : ∀ {x : Value} {n : Nat} {ys : List Value}, w.ownsRow B 3 1 x n ys → (x.ownBlock = Option.none ∨ x.ownBlock ≠ v.ownBlock) → (x.ownBlock = Option.none ∨ x.ownBlock ≠ v'.ownBlock) := fun {x} {n} {ys} hx hxv => by
    rcases hb with e | e
    · rw [e]
      exact hxv
    · exact owns_new hx (fun k hk => by rw [e] at hk; cases hk; exact Nat.le_refl _)
  refine ⟨by rw [List.length_append]; exact ho, fun i hi => ?_, fun i j hi hj hij => ?_, fun i hi => ?_⟩
  · rw [List.length_append] at hi
    by_cases e : i < xs.length
    · rw [getD_snoc_lt _ _ _ _ (by omega), getD_snoc_lt _ _ _ _ e]
      exact (h.inner i e).kept hg (h.aside i e)
    · have e2 : i = xs.length := by simp at hi; omega
      rw [getD_snoc_eq _ _ _ _ (by omega), getD_snoc_eq _ _ _ _ e2]
      exact hu.kept hg hv
  · rw [List.length_append] at hi hj
    simp only [List.length_cons, List.length_nil] at hi hj
    by_cases e : i < xs.length
    · rw [getD_snoc_lt _ _ _ _ (by omega)]
      by_cases e2 : j < xs.length
      · rw [getD_snoc_lt _ _ _ _ (by omega)]
        exact h.apart i j e e2 hij
      · rw [getD_snoc_eq _ _ _ _ (by omega)]
        exact ha i e
    · rw [getD_snoc_eq _ _ _ i (by omega), getD_snoc_lt _ _ _ j (by omega)]
      rcases ha j (by omega) with q | q
      · rw [q]
        cases hu0 : u.ownBlock with
        | none => exact .inl rfl
        | some k => exact .inr (by simp)
      · exact .inr (fun e => q e.symm)
  · rw [List.length_append] at hi
    simp only [List.length_cons, List.length_nil] at hi
    by_cases e : i < xs.length
    · rw [getD_snoc_lt _ _ _ _ (by omega)]
      exact hnew (h.inner i e) (h.aside i e)
    · rw [getD_snoc_eq _ _ _ _ (by omega)]
      exact hnew hu hv

end Go.Proofs.YtaepgjheknkojaaGreat

namespace Go.Proofs.YtaepgjheknkojaaGreat
open Go.RowKit
set_option linter.unusedSimpArgs false
set_option linter.unusedVariables false

theorem getD_set_eq {α : Type} (l : List α) (x d : α) (i : Nat) (h : i < l.length) : (l.set i x).getD i d = x := by
  rw [List.getD_eq_getElem?_getD, List.getElem?_set_self h]
  rfl
theorem getD_set_ne {α : Type} (l : List α) (x d : α) (i j : Nat) (h : i ≠ j) : (l.set i x).getD j d = l.getD j d := by
  rw [List.getD_eq_getElem?_getD, List.getElem?_set_ne h, List.getD_eq_getElem?_getD]
theorem ne_swap {a b : Option Nat} (h : a = none ∨ a ≠ b) : b = none ∨ b ≠ a := by
  rcases h with h | h
  · cases b with
    | none => exact .inl rfl
    | some k => exact .inr (by rw [h]; simp)
  · exact .inr (fun e => h e.symm)

/-- One list grows, and its place in the row of lists is told so. -/
theorem OwnMat.set {E : TypeId} {B : Nat} {w w1 : World} {v : Value} {vs : List Value} {xs : List (List Int)} (h : OwnMat E B w v vs xs) (i : Nat) (hi : i < xs.length) {u' : Value} {l' : List Int}
    (hg : w.grownBy w1 (vs.getD i noS).ownBlock) (hu : w1.ownsRow B 3 1 u' l'.length (intsC l')) (hb : u'.ownBlock = (vs.getD i noS).ownBlock ∨ u'.ownBlock = some w.heap.size) (g cap : Nat) (hv : v = .slice (some ⟨g, 0, none⟩) xs.length cap) :
    OwnMat E B (w1.setCell ⟨g, i, none⟩ u') v (vs.set i u') (xs.set i l') := by
  have hvl := h.vlen
  have hvb : v.ownBlock = some g := by rw [hv]; rfl
  have hgl := (h.outer.lt g hvb).2
  have hug : u'.ownBlock ≠ some g := by
    rcases hb with e | e
    · rw [e]
      rcases h.aside i hi with q | q
      · rw [q]; simp
      · rw [hvb] at q; exact q
    · rw [e]
      intro e2
      cases e2
      omega
  have hout := h.outer.kept hg (ne_swap (h.aside i hi))
  have hnew : ∀ j, j < xs.length → j ≠ i → (vs.getD j noS).ownBlock = none ∨ (vs.getD j noS).ownBlock ≠ u'.ownBlock := fun j hj hji => by
    rcases hb with e | e
    · rw [e]
      exact h.apart j i hj hi hji
    · exact owns_new (h.inner j hj) (fun k hk => by rw [e] at hk; cases hk; exact Nat.le_refl _)
  refine ⟨?_, fun j hj => ?_, fun j k hj hk hjk => ?_, fun j hj => ?_⟩
  · rw [List.length_set]
    rw [hv] at hout ⊢
    exact (hout.stored i u').1
  · rw [List.length_set] at hj
    by_cases e : i = j
    · subst e
      rw [getD_set_eq _ _ _ _ (by omega), getD_set_eq _ _ _ _ hi]
      exact ownsRow_setCell_other hu hug _
    · rw [getD_set_ne _ _ _ _ _ e, getD_set_ne _ _ _ _ _ e]
      refine ownsRow_setCell_other ((h.inner j hj).kept hg (h.apart j i hj hi (fun q => e q.symm))) ?_ _
      rcases h.aside j hj with q | q
      · rw [q]; simp
      · rw [hvb] at q; exact q
  · rw [List.length_set] at hj hk
    by_cases e : i = j
    · subst e
      rw [getD_set_eq _ _ _ _ (by omega), getD_set_ne _ _ _ _ _ hjk]
      exact ne_swap (hnew k hk (fun q => hjk q.symm))
    · rw [getD_set_ne _ _ _ _ _ e]
      by_cases e2 : i = k
      · subst e2
        rw [getD_set_eq _ _ _ _ (by omega)]
        exact hnew j hj (fun q => e q.symm)
      · rw [getD_set_ne _ _ _ _ _ e2]
        exact h.apart j k hj hk hjk
  · rw [List.length_set] at hj
    by_cases e : i = j
    · subst e
      rw [getD_set_eq _ _ _ _ (by omega), hvb]
      exact .inr hug
    · rw [getD_set_ne _ _ _ _ _ e]
      exact h.aside j hj

/-- Rows of new memory: from block B on, and they may be written. -/
structure Fresh (B : Nat) (w : World) (ao : Option Addr) (xs : List (List Int)) : Prop where
  own : ∀ b off, ao = some ⟨b, off, none⟩ → 0 < xs.length → B ≤ b
  rows : ∀ b off, ao = some ⟨b, off, none⟩ → ∀ i, i < xs.length → ∀ a n c, w.cell? ⟨b, off + i, none⟩ = some (.slice a n c) → ∀ ba oa, a = some ⟨ba, oa, none⟩ → B ≤ ba ∧ ∀ j, w.frozen? ⟨ba, j, none⟩ = false

/-- What a call owns, read as rows. -/
theorem OwnMat.rows {E : TypeId} {B : Nat} {w : World} {v : Value} {vs : List Value} {xs : List (List Int)} (h : OwnMat E B w v vs xs) (hx : xs.length ≤ 5864062014805)
    (hl : ∀ i, i < xs.length → (xs.getD i []).length ≤ 17592186044415 ∧ ∀ n ∈ xs.getD i [], -9223372036854775808 ≤ n ∧ n ≤ 9223372036854775807) :
    ∃ ao cap, v = .slice ao xs.length cap ∧ RowsAt w ao xs ∧ Fresh B w ao xs := by
  have hvl := h.vlen
  have hin : ∀ i, i < xs.length → ∃ a c, vs.getD i noS = .slice a (xs.getD i []).length c ∧ (xs.getD i []).length ≤ c ∧ (a = none → c = 0) ∧ IntsAt w a (xs.getD i []) ∧ ∀ ba oa, a = some ⟨ba, oa, none⟩ → B ≤ ba ∧ ∀ j, w.frozen? ⟨ba, j, none⟩ = false := fun i hi => by
    have hr := h.inner i hi
    obtain ⟨l1, l2⟩ := hl i hi
    rcases hr.2 with ⟨e, e0⟩ | ⟨g, c, cur, e, hb, hg, hn, hm, hs, ht⟩
    · refine ⟨none, 0, by rw [e, e0], by omega, fun _ => rfl, ⟨l1, l2, fun q => (by omega)⟩, fun ba oa q => (by cases q)⟩
    · refine ⟨some ⟨g, 0, none⟩, c, e, hn, fun q => (by cases q), ⟨l1, l2, fun q => ⟨g, 0, rfl, fun j hj => ?_⟩⟩, fun ba oa q => ?_⟩
      · have := hr.cells (g := g) (by rw [e]; rfl) j (.int .i64 ((xs.getD i []).getD j 0)) (by
          rw [intsC, List.getElem?_map, List.getElem?_eq_getElem hj, List.getD_eq_getElem?_getD (l := xs.getD i []), List.getElem?_eq_getElem hj]
          rfl)
        rw [Addr.add_mid] at this
        exact this
      · cases q
        exact ⟨hb, fun j => by simp [World.frozen?, hg]⟩
  rcases h.outer.2 with ⟨e, e0⟩ | ⟨g, c, cur, e, hb, hg, hn, hm, hs, ht⟩
  · exact ⟨none, 0, by rw [e, e0], ⟨hx, fun q => by omega⟩, ⟨fun b off q => (by cases q), fun b off q => (by cases q)⟩⟩
  · have hcell : ∀ i, i < xs.length → w.cell? ⟨g, 0 + i, none⟩ = some (vs.getD i noS) := fun i hi => by
      have := h.outer.cells (g := g) (by rw [e]; rfl) i (vs.getD i noS) (by
        rw [List.getD_eq_getElem?_getD, List.getElem?_eq_getElem (by omega)]
        rfl)
      rw [Addr.add_mid] at this
      exact this
    refine ⟨some ⟨g, 0, none⟩, c, e, ⟨hx, fun q => ⟨g, 0, rfl, fun i hi => ?_⟩⟩, ⟨fun b off q _ => (by cases q; exact hb), fun b off q i hi a n c' hc ba oa ha => ?_⟩⟩
    · obtain ⟨a, c', e1, e2, e3, e4, _⟩ := hin i hi
      exact ⟨a, c', by rw [hcell i hi, e1], e2, e3, e4⟩
    · cases q
      obtain ⟨a', c'', e1, _, _, _, e5⟩ := hin i hi
      rw [hcell i hi, e1] at hc
      cases hc
      exact e5 ba oa ha

end Go.Proofs.YtaepgjheknkojaaGreat

namespace Go.Proofs.YtaepgjheknkojaaGreat
open Go.RowKit
set_option linter.unusedSimpArgs false
set_option linter.unusedVariables false

def cutL (f t : Nat) (l : List Int) : List Int := (l.take t).drop f
def cutP (p : Pcm) (f t : Nat) : Pcm := ⟨p.rate, p.ch, p.wd, p.pl.map (cutL f t)⟩
theorem cutL_length (f t : Nat) (l : List Int) (h1 : f ≤ t) (h2 : t ≤ l.length) : (cutL f t l).length = t - f := by
  unfold cutL
  rw [List.length_drop, List.length_take]
  omega
theorem cutL_mem (f t : Nat) (l : List Int) : ∀ n ∈ cutL f t l, n ∈ l := fun n hn => List.mem_of_mem_take (List.mem_of_mem_drop hn)
theorem cutL_get (f t : Nat) (l : List Int) (h1 : f ≤ t) (h2 : t ≤ l.length) (j : Nat) (hj : j < t - f) : (cutL f t l)[j]? = some (l.getD (f + j) 0) := by
  unfold cutL
  rw [List.getElem?_drop, List.getElem?_take, if_pos (by omega), List.getD_eq_getElem?_getD, List.getElem?_eq_getElem (by omega)]
  rfl
theorem getD_map_cut (xs : List (List Int)) (f t i : Nat) (h : i < xs.length) : (xs.map (cutL f t)).getD i [] = cutL f t (xs.getD i []) := by
  rw [List.getD_eq_getElem?_getD, List.getElem?_map, List.getElem?_eq_getElem h, List.getD_eq_getElem?_getD, List.getElem?_eq_getElem h]
  rfl
theorem take_map_snoc (xs : List (List Int)) (f t i : Nat) (h : i < xs.length) : (xs.take (i + 1)).map (cutL f t) = (xs.take i).map (cutL f t) ++ [cutL f t (xs.getD i [])] := by
  rw [List.take_succ_eq_append_getElem h, List.map_append, List.getD_eq_getElem?_getD, List.getElem?_eq_getElem h]
  rfl

theorem infoP : (Tryz.prog.info? 24).map (·.size) = some 4 := by kernel_rfl
theorem infoI : (Tryz.prog.info? 95).map (fun i => (i.zero, i.size, i.bytes)) = some (some (.slice none 0 0), 1, 24) := by kernel_rfl
theorem info3' : (Tryz.prog.info? 3).map (fun i => (i.zero, i.size, i.bytes)) = some (some (.int .i64 0), 1, 8) := by kernel_rfl

abbrev zeroP : Array Value := #[.int .i64 0, .int .i64 0, .int .i64 0, .slice none 0 0]

/-- On the way through Cut. -/
structure Ct (w0 : World) (p : Pcm) (ao : Option Addr) (cap : Nat) (v : Value) (vs : List Value) (xs : List (List Int)) (w : World) : Prop where
  box : w.heap[w0.heap.size]? = some (.cells (pcmC p ao cap) 24 (0, 0))
  res : w.heap[w0.heap.size + 1]? = some (.cells zeroP 24 (0, 0))
  q : w.heap[w0.heap.size + 2]? = some (.cells #[.int .i64 p.rate, .int .i64 p.ch, .int .i64 p.wd, v] 24 (0, 0))
  mat : OwnMat 95 (w0.heap.size + 3) w v vs xs
  size : w0.heap.size + 3 ≤ w.heap.size
  below : Below w0.heap.size w0 w

theorem block_set (w : World) (p i : Nat) (cs : Array Value) (t : TypeId) (u : Value) (h : w.heap[p]? = some (.cells cs t (0, 0))) :
    (w.setCell ⟨p, i, none⟩ u).heap[p]? = some (.cells (cs.setIfInBounds i u) t (0, 0)) := by
  simp only [World.setCell, Array.getElem?_modify, h]
  simp
section
variable {w0 w w1 w2 w3 : World} {p : Pcm} {ao : Option Addr} {cap : Nat} {v v' u : Value} {vs : List Value} {xs : List (List Int)} {l : List Int}
theorem below_of_grown (h : w.grownBy w1 none) : Below w.heap.size w w1 := ⟨h.os, h.tape, h.output, h.size, fun k hk => h.block k hk (by simp)⟩
theorem Ct.next (h : Ct w0 p ao cap v vs xs w) (hB : Below w.heap.size w w1) : Ct w0 p ao cap v vs xs w1 :=
  ⟨by rw [hB.block _ (lt_of_block h.box)]; exact h.box, by rw [hB.block _ (lt_of_block h.res)]; exact h.res, by rw [hB.block _ (lt_of_block h.q)]; exact h.q, h.mat.next hB, Nat.le_trans h.size hB.size, h.below.trans (hB.mono h.below.size)⟩
theorem Ct.drew (h : Ct w0 p ao cap v vs xs w) : Ct w0 p ao cap v vs xs w.drew := h.next ⟨rfl, rfl, rfl, Nat.le_refl _, fun _ _ => rfl⟩
theorem Ct.c3 (h : Ct w0 p ao cap v vs xs w) : w.cell? ⟨w0.heap.size, 3, none⟩ = some (.slice ao p.pl.length cap) := by rw [cell_of_row _ _ _ _ _ _ h.box]; rfl
theorem Ct.q3 (h : Ct w0 p ao cap v vs xs w) : w.cell? ⟨w0.heap.size + 1 + 1, 3, none⟩ = some v := by rw [cell_of_row _ _ _ _ _ _ h.q]; rfl
theorem Ct.f3 (h : Ct w0 p ao cap v vs xs w) : w.frozen? ⟨w0.heap.size + 1 + 1, 3, none⟩ = false := by
  have := h.q
  simp [World.frozen?, this]
theorem Ct.new (w : World) (p : Pcm) (ao : Option Addr) (cap : Nat) : Ct w p ao cap noS [] [] (((w.alloc (.cells (pcmC p ao cap) 24)).alloc (.cells zeroP 24)).alloc (.cells #[.int .i64 p.rate, .int .i64 p.ch, .int .i64 p.wd, noS] 24)) := by
  refine ⟨?_, ?_, ?_, OwnMat.empty _ _ _, by simp, (((Below.refl w.heap.size w).alloc (Nat.le_refl _) _).alloc (by simp) _).alloc (by simp; omega) _⟩
  · rw [Below.heap_alloc _ _ _ (by simp; omega), Below.heap_alloc _ _ _ (by simp)]
    exact heap_alloc_new _ _
  · rw [Below.heap_alloc _ _ _ (by simp)]
    have h := heap_alloc_new (w.alloc (.cells (pcmC p ao cap) 24)) (.cells zeroP 24)
    have e : (w.alloc (.cells (pcmC p ao cap) 24)).heap.size = w.heap.size + 1 := by simp
    rw [e] at h
    exact h
  · have h := heap_alloc_new ((w.alloc (.cells (pcmC p ao cap) 24)).alloc (.cells zeroP 24)) (.cells #[.int .i64 p.rate, .int .i64 p.ch, .int .i64 p.wd, noS] 24)
    have e : ((w.alloc (.cells (pcmC p ao cap) 24)).alloc (.cells zeroP 24)).heap.size = w.heap.size + 2 := by simp
    rw [e] at h
    exact h
/-- One more plane: made of its own (w1), laid into a list of one (w2), appended (w3): all but the store. -/
theorem Ct.grown (h : Ct w0 p ao cap v vs xs w2) (hg : w2.grownBy w3 v.ownBlock) : w3.heap[w0.heap.size]? = some (.cells (pcmC p ao cap) 24 (0, 0)) ∧ w3.heap[w0.heap.size + 1]? = some (.cells zeroP 24 (0, 0)) ∧ w3.heap[w0.heap.size + 2]? = some (.cells #[.int .i64 p.rate, .int .i64 p.ch, .int .i64 p.wd, v] 24 (0, 0)) ∧ w0.heap.size + 3 ≤ w3.heap.size ∧ Below w0.heap.size w0 w3 := by
  have hne : ∀ k, k < w0.heap.size + 3 → some k ≠ v.ownBlock := fun k hk e => by
    have := (h.mat.outer.lt k e.symm).1
    omega
  refine ⟨by rw [hg.block _ (lt_of_block h.box) (hne _ (by omega))]; exact h.box, by rw [hg.block _ (lt_of_block h.res) (hne _ (by omega))]; exact h.res, by rw [hg.block _ (lt_of_block h.q) (hne _ (by omega))]; exact h.q, Nat.le_trans h.size hg.size, ?_⟩
  exact grown_to hg h.below (by have := h.size; omega) (fun k hk => by have := (h.mat.outer.lt k hk).1; omega)
theorem Ct.push (h : Ct w0 p ao cap v vs xs w2) (hu : w2.ownsRow (w0.heap.size + 3) 3 1 u l.length (intsC l)) (hn : ∀ k, u.ownBlock = some k → ∀ i, i < xs.length → (vs.getD i noS).ownBlock ≠ some k) (hn2 : ∀ k, u.ownBlock = some k → v.ownBlock ≠ some k)
    (ho : w3.ownsRow (w0.heap.size + 3) 95 1 v' (xs.length + 1) (vs ++ [u])) (hg : w2.grownBy w3 v.ownBlock) (hb : v'.ownBlock = v.ownBlock ∨ v'.ownBlock = some w2.heap.size) :
    Ct w0 p ao cap v' (vs ++ [u]) (xs ++ [l]) (w3.setCell ⟨w0.heap.size + 1 + 1, 3, none⟩ v') := by
  obtain ⟨g1, g2, g3, g4, g5⟩ := h.grown hg
  have hm := h.mat.push (u := u) (l := l) hu (fun i hi => ?_) ?_ ho hg hb
  · have hblk : ∀ {x : Value} {e : TypeId} {n : Nat} {ys : List Value}, w3.ownsRow (w0.heap.size + 3) e 1 x n ys → x.ownBlock ≠ some (w0.heap.size + 2) := fun {x} {e} {n} {ys} hx q => by
      have := (hx.lt _ q).1
      omega
    refine ⟨?_, ?_, ?_, ⟨ownsRow_setCell_other hm.outer (hblk hm.outer) _, fun i hi => ownsRow_setCell_other (hm.inner i hi) (hblk (hm.inner i hi)) _, hm.apart, hm.aside⟩, by simpa [World.setCell] using g4, g5.setCell (by simp; omega) _⟩
    · rw [Below.heap_setCell _ _ _ _ (by simp; omega)]
      exact g1
    · rw [Below.heap_setCell _ _ _ _ (by simp)]
      exact g2
    · have e := block_set w3 (w0.heap.size + 2) 3 _ _ v' g3
      exact e
  · cases hub : u.ownBlock with
    | none =>
      cases hvb : (vs.getD i noS).ownBlock with
      | none => exact .inl rfl
      | some k => exact .inr (by simp)
    | some k => exact .inr (hn k hub i hi)
  · cases hub : u.ownBlock with
    | none => exact .inl rfl
    | some k => exact .inr (fun e => hn2 k hub e.symm)
end

theorem one_cell {w : World} {u : Value} {e : TypeId} {ad : Addr} (q : some (⟨w.heap.size, 0, none⟩ : Addr) = some ad) {j : Nat} {x : Value} (hj : [u][j]? = some x) : (w.alloc (.cells #[u] e)).cell? (ad.add j) = some x := by
  cases q
  rw [Addr.add_mid, Nat.zero_add, cell_of_row _ _ _ _ _ _ (heap_alloc_new w _)]
  simpa using hj
theorem owns_shape {w : World} {base : Nat} {e : TypeId} {v : Value} {n : Nat} {xs : List Value} (h : w.ownsRow base e 1 v n xs) : ∃ a m c, v = .slice a m c := by
  rcases h.2 with ⟨rfl, _⟩ | ⟨g, c, cur, rfl, _⟩
  · exact ⟨_, _, _, rfl⟩
  · exact ⟨_, _, _, rfl⟩
theorem owns_oneCell {w : World} {base : Nat} {e : TypeId} {v : Value} {n : Nat} {xs : List Value} (h : w.ownsRow base e 1 v n xs) : v.oneCell' = true := by
  rcases h.2 with ⟨rfl, _⟩ | ⟨g, c, cur, rfl, _⟩ <;> rfl
theorem owns_one {w : World} {base : Nat} {e : TypeId} {v : Value} {n : Nat} {xs : List Value} (h : w.ownsRow base e 1 v n xs) : ∀ x ∈ [v], x.oneCell' = true := by
  intro x hx
  rw [List.mem_singleton] at hx
  subst hx
  exact owns_oneCell h
theorem owns_len {w : World} {base : Nat} {e : TypeId} {v : Value} {m : Nat} {l : List Int} (h : w.ownsRow base e 1 v (0 + m) ([] ++ intsC l)) (hl : l.length = m) : w.ownsRow base e 1 v l.length (intsC l) := by
  rw [Nat.zero_add, List.nil_append, ← hl] at h
  exact h
theorem new_apart {w : World} {u x : Value} {base : Nat} {e : TypeId} {n : Nat} {ys : List Value} (hb : u.ownBlock = noS.ownBlock ∨ u.ownBlock = some w.heap.size) {k : Nat} (hk : u.ownBlock = some k) (hx : w.ownsRow base e 1 x n ys) : x.ownBlock ≠ some k := by
  intro e2
  have h1 := (hx.lt k e2).2
  rcases hb with q | q
  · rw [q] at hk
    cases hk
  · rw [q] at hk
    cases hk
    omega

theorem OwnMat.setOther {E : TypeId} {B : Nat} {w : World} {v : Value} {vs : List Value} {xs : List (List Int)} (h : OwnMat E B w v vs xs) {a : Addr} (ha : a.block < B) (u : Value) : OwnMat E B (w.setCell a u) v vs xs := by
  have hblk : ∀ {x : Value} {e : TypeId} {n : Nat} {ys : List Value}, w.ownsRow B e 1 x n ys → x.ownBlock ≠ some a.block := fun {x} {e} {n} {ys} hx q => by
    have := (hx.lt _ q).1
    omega
  exact ⟨ownsRow_setCell_other h.outer (hblk h.outer) _, fun i hi => ownsRow_setCell_other (h.inner i hi) (hblk (h.inner i hi)) _, h.apart, h.aside⟩
theorem Fresh.mono {B B' : Nat} {w : World} {ao : Option Addr} {xs : List (List Int)} (h : Fresh B w ao xs) (hB : B' ≤ B) : Fresh B' w ao xs :=
  ⟨fun b off e h0 => Nat.le_trans hB (h.own b off e h0), fun b off e i hi a n c hc ba oa ha => ⟨Nat.le_trans hB (h.rows b off e i hi a n c hc ba oa ha).1, (h.rows b off e i hi a n c hc ba oa ha).2⟩⟩
theorem results_one {fn : Func} {p : Tmp} {ty : TypeId} (h : fn.results = #[.cell p ty]) (tmps : Array Value) (P : Program) (w : World) :
    (results fn tmps).run P w = ((asAddr (tmps.getD p undef)).run P w).andThen fun a w₁ => (loadVar ty a).run P w₁ := by
  simp only [results, h]
  simp [Sem.run_bind, Result.andThen]

theorem elemI : Tryz.prog.elem 95 = 3 := by kernel_rfl
theorem undI : Tryz.prog.underlying 95 = some (.slice (Tryz.prog.elem 95)) := by rw [elemI]; exact Tryz.underlying95
theorem size3 (w : World) : (Go.sizeOf 3).run Tryz.prog w = .ok 1 w := by
  have h := info3'
  cases hq : Tryz.prog.info? 3 with
  | none => rw [hq] at h; cases h
  | some i =>
    rw [hq] at h
    simp only [Option.map_some, Option.some.injEq, Prod.mk.injEq] at h
    simp [Go.sizeOf, typeInfo, hq, h.2.1]

/-- A part of a list of numbers. -/
theorem slice_ints (a : Option Addr) (n c f t : Nat) (h1 : f ≤ t) (h2 : t ≤ n) (h3 : n ≤ c) (h0 : a = none → c = 0) :
    ∃ xo c', (∀ w, (Instr.slice 95 (.slice a n c) (some (.int .i64 (f : Int))) (some (.int .i64 (t : Int))) none).run Tryz.prog w = .ok (.slice xo (t - f) c') w) ∧ (xo = none → t - f = 0 ∧ c' = 0) ∧ (∀ b off, a = some ⟨b, off, none⟩ → f < t → xo = some ⟨b, off + f, none⟩) := by
  cases a with
  | none =>
    have := h0 rfl
    refine ⟨none, c - f, fun w => ?_, fun _ => (by omega), fun b off q => (by cases q)⟩
    rw [run_slice_lh w 95 none n c undI .i64 .i64 _ _ (by omega) (by omega) (by omega), elemI, size3]
    simp [Result.andThen, sliced]
  | some ad =>
    refine ⟨some (if c = f then ad else ad.add f), c - f, fun w => ?_, fun q => (by cases q), fun b off q hlt => ?_⟩
    · rw [run_slice_lh w 95 (some ad) n c undI .i64 .i64 _ _ (by omega) (by omega) (by omega), elemI, size3]
      simp only [Result.andThen_ok, sliced, Int.toNat_natCast, Option.map_some, Nat.mul_one]
      split <;> rfl
    · cases q
      rw [if_neg (by omega), Addr.add_mid]

/-- A PCM is handed back, all in new memory that is the caller's now. -/
def Cuts (w : World) (q : Pcm) (e : Ending) (w' : World) : Prop := ∃ ao' cap', e = .returned (pcmV q ao' cap') ∧ RowsAt w' ao' q.pl ∧ Fresh w.heap.size w' ao' q.pl ∧ Below w.heap.size w w' ∧ ∃ vs, OwnMat 95 (w.heap.size + 3) w' (.slice ao' q.pl.length cap') vs q.pl
end Go.Proofs.YtaepgjheknkojaaGreat

namespace Go.Proofs.YtaepgjheknkojaaGreat
open Go.RowKit
set_option linter.unusedSimpArgs false
set_option linter.unusedVariables false

def noP : Pcm := ⟨0, 0, 0, []⟩
theorem rows_none (w : World) (ao : Option Addr) : RowsAt w ao noP.pl := ⟨by decide, fun h => absurd h (by decide)⟩
theorem fresh_none (B : Nat) (w : World) (ao : Option Addr) : Fresh B w ao noP.pl := ⟨fun b off e h => absurd h (by decide), fun b off e i hi => absurd hi (Nat.not_lt_zero _)⟩
def sliceN (p : Pcm) (f t : Int) : Int := if checkN p = 0 then (if 0 ≤ f ∧ f ≤ t ∧ t ≤ lenP p then 0 else 1) else checkN p
def sliceP (p : Pcm) (f t : Int) : Pcm := if checkN p = 0 ∧ 0 ≤ f ∧ f ≤ t ∧ t ≤ lenP p then cutP p f.toNat t.toNat else noP
theorem results_two {fn : Func} {p t : Tmp} {ty : TypeId} (h : fn.results = #[.cell p ty, .tmp t]) (tmps : Array Value) (P : Program) (w : World) :
    (results fn tmps).run P w = ((asAddr (tmps.getD p undef)).run P w).andThen fun a w₁ => ((loadVar ty a).run P w₁).andThen fun x w₂ => .ok (.tuple #[x, tmps.getD t undef]) w₂ := by
  simp only [results, h]
  simp [Sem.run_bind, Result.andThen]

theorem RowsAt.setLow {B : Nat} {w : World} {ao : Option Addr} {xs : List (List Int)} (h : RowsAt w ao xs) (hf : Fresh B w ao xs) {a : Addr} (ha : a.block < B) (u : Value) : RowsAt (w.setCell a u) ao xs ∧ Fresh B (w.setCell a u) ao xs := by
  have hout : ∀ b off, ao = some ⟨b, off, none⟩ → 0 < xs.length → ∀ o, (w.setCell a u).cell? ⟨b, o, none⟩ = w.cell? ⟨b, o, none⟩ := fun b off e h0 o => by
    have := hf.own b off e h0
    exact World.cell?_of_block (w := w) (a := ⟨b, o, none⟩) (Below.heap_setCell w a u b (by omega))
  refine ⟨⟨h.len, fun h0 => ?_⟩, ⟨hf.own, fun b off e i hi a' n c hc ba oa hba => ?_⟩⟩
  · obtain ⟨b, off, e, hc⟩ := h.lies h0
    refine ⟨b, off, e, fun i hi => ?_⟩
    obtain ⟨a', c, h1, h2, h3, h4⟩ := hc i hi
    refine ⟨a', c, by rw [hout b off e h0]; exact h1, h2, h3, ⟨h4.len, h4.num, fun h5 => ?_⟩⟩
    obtain ⟨ba, oa, e2, hc2⟩ := h4.lies h5
    have hb2 := (hf.rows b off e i hi a' _ c h1 ba oa e2).1
    refine ⟨ba, oa, e2, fun j hj => ?_⟩
    rw [World.cell?_of_block (w := w) (a := ⟨ba, oa + j, none⟩) (Below.heap_setCell w a u ba (by omega))]
    exact hc2 j hj
  · rw [hout b off e (by omega)] at hc
    obtain ⟨g1, g2⟩ := hf.rows b off e i hi a' n c hc ba oa hba
    exact ⟨g1, fun j => by rw [World.frozen?_setCell]; exact g2 j⟩

structure Sl (w0 : World) (p : Pcm) (ao : Option Addr) (cap : Nat) (w : World) : Prop where
  box : w.heap[w0.heap.size]? = some (.cells (pcmC p ao cap) 24 (0, 0))
  res : w.heap[w0.heap.size + 1]? = some (.cells zeroP 24 (0, 0))
  below : Below w0.heap.size w0 w
section
variable {w0 w w' : World} {p : Pcm} {ao : Option Addr} {cap : Nat}
theorem Sl.next (h : Sl w0 p ao cap w) (hB : Below w.heap.size w w') : Sl w0 p ao cap w' :=
  ⟨by rw [hB.block _ (lt_of_block h.box)]; exact h.box, by rw [hB.block _ (lt_of_block h.res)]; exact h.res, h.below.trans (hB.mono h.below.size)⟩
theorem Sl.new (w : World) (p : Pcm) (ao : Option Addr) (cap : Nat) : Sl w p ao cap ((w.alloc (.cells (pcmC p ao cap) 24)).alloc (.cells zeroP 24)) := by
  refine ⟨?_, ?_, ((Below.refl w.heap.size w).alloc (Nat.le_refl _) _).alloc (by simp) _⟩
  · rw [Below.heap_alloc _ _ _ (by simp)]
    exact heap_alloc_new _ _
  · have h := heap_alloc_new (w.alloc (.cells (pcmC p ao cap) 24)) (.cells zeroP 24)
    have e : (w.alloc (.cells (pcmC p ao cap) 24)).heap.size = w.heap.size + 1 := by simp
    rw [e] at h
    exact h
theorem Sl.c0 (h : Sl w0 p ao cap w) : w.cell? ⟨w0.heap.size, 0, none⟩ = some (.int .i64 p.rate) := by rw [cell_of_row _ _ _ _ _ _ h.box]; rfl
theorem Sl.c1 (h : Sl w0 p ao cap w) : w.cell? ⟨w0.heap.size, 1, none⟩ = some (.int .i64 p.ch) := by rw [cell_of_row _ _ _ _ _ _ h.box]; rfl
theorem Sl.c2 (h : Sl w0 p ao cap w) : w.cell? ⟨w0.heap.size, 2, none⟩ = some (.int .i64 p.wd) := by rw [cell_of_row _ _ _ _ _ _ h.box]; rfl
theorem Sl.c3 (h : Sl w0 p ao cap w) : w.cell? ⟨w0.heap.size, 3, none⟩ = some (.slice ao p.pl.length cap) := by rw [cell_of_row _ _ _ _ _ _ h.box]; rfl
theorem Sl.r0 (h : Sl w0 p ao cap w) : w.cell? ⟨w0.heap.size + 1, 0, none⟩ = some (.int .i64 0) := by rw [cell_of_row _ _ _ _ _ _ h.res]; rfl
theorem Sl.r1 (h : Sl w0 p ao cap w) : w.cell? ⟨w0.heap.size + 1, 1, none⟩ = some (.int .i64 0) := by rw [cell_of_row _ _ _ _ _ _ h.res]; rfl
theorem Sl.r2 (h : Sl w0 p ao cap w) : w.cell? ⟨w0.heap.size + 1, 2, none⟩ = some (.int .i64 0) := by rw [cell_of_row _ _ _ _ _ _ h.res]; rfl
theorem Sl.r3 (h : Sl w0 p ao cap w) : w.cell? ⟨w0.heap.size + 1, 3, none⟩ = some (.slice none 0 0) := by rw [cell_of_row _ _ _ _ _ _ h.res]; rfl
theorem Sl.fz (h : Sl w0 p ao cap w) (o : Nat) : w.frozen? ⟨w0.heap.size + 1, o, none⟩ = false := by
  have := h.res
  simp [World.frozen?, this]
end

end Go.Proofs.YtaepgjheknkojaaGreat
