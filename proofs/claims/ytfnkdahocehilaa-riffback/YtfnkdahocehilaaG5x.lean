/- Own text: lists of lists of numbers that a call owns: how they grow. It speaks of no program. lists of lists of numbers that a call owns: one of them is replaced; read as rows. It speaks of no program. -/
import Derived.Test.YtfnkdahocehilaaG3x
import Derived.ArgAppend
import Derived.Maps.AppendAt
import Derived.Laws.OwnMore
import Derived.OneCell
import Derived.Deep.MidRow
namespace Go.Proofs.Ytfnkdahocehilaa
open Go.RowKit
set_option linter.unusedSimpArgs false
set_option linter.unusedVariables false

def intsC (l : List Int) : List Value := l.map fun n => Value.int .i64 n
theorem intsC_length (l : List Int) : (intsC l).length = l.length := by simp [intsC]
theorem intsC_one (l : List Int) : ∀ u ∈ intsC l, u.oneCell' = true := by
  intro u hu
  obtain ⟨n, _, rfl⟩ := List.mem_map.1 hu
  rfl
theorem intsC_append (l m : List Int) : intsC (l ++ m) = intsC l ++ intsC m := by simp [intsC]
abbrev noS : Value := .slice none 0 0

theorem grown_below {w w' : World} (h : Below w.heap.size w w') (row : Option Nat) : w.grownBy w' row := ⟨h.os, h.tape, h.output, h.size, fun k hk _ => h.block k hk⟩
theorem owns_below {w w' : World} {base : Nat} {e : TypeId} {size : Nat} {v : Value} {n : Nat} {xs : List Value} (h : w.ownsRow base e size v n xs) (hB : Below w.heap.size w w') : w'.ownsRow base e size v n xs :=
  h.kept (row := none) (grown_below hB none) (by cases hv : v.ownBlock <;> simp)
theorem grown_to {w w' : World} {row : Option Nat} {B : Nat} {w0 : World} (h : w.grownBy w' row) (hb : Below B w0 w) (hB : B ≤ w.heap.size) (hr : ∀ k, row = some k → B ≤ k) : Below B w0 w' :=
  hb.trans ⟨h.os, h.tape, h.output, h.size, fun k hk => h.block k (Nat.lt_of_lt_of_le hk hB) (fun e => by have := hr k e.symm; omega)⟩

/-- append of any slice to an owned row. -/
theorem run_append_src {P : Program} (w : World) (base : Nat) (t ty e : TypeId) (i : TypeInfo) (z : Value) (bytes : Nat) (ht : P.underlying t = some (.slice e)) (hi : P.info? e = some i) (hz : i.zero = some z)
    (hsize : i.size = 1) (hby : i.bytes = bytes) (hzs : z.cells.size = 1)
    (v : Value) (n : Nat) (xs : List Value) (hown : w.ownsRow base e 1 v n xs)
    (xo : Option Addr) (m c : Nat) (news : List Value) (h0 : xo = none → m = 0 ∧ c = 0) (hl : news.length = m) (hnews : ∀ ad, xo = some ad → ∀ j u, news[j]? = some u → w.cell? (ad.add j) = some u) (h1 : ∀ u ∈ news, u.oneCell' = true)
    (h63 : n + m ≤ maxLen) (hbytes : (n + m) * bytes ≤ 140737488355328) (hbase : base ≤ w.heap.size) :
    ∃ v' w', (Builtin.append_ #[t, t] ty #[v, .slice xo m c]).run P w = .ok v' w' ∧ w'.ownsRow base e 1 v' (n + m) (xs ++ news) ∧ w.grownBy w' v.ownBlock ∧ (v'.ownBlock = v.ownBlock ∨ v'.ownBlock = some w.heap.size) := by
  cases xo with
  | none =>
    obtain ⟨rfl, rfl⟩ := h0 rfl
    obtain rfl : news = [] := List.eq_nil_of_length_eq_zero hl
    refine ⟨v, w, run_append_owned_none w base t ty e i 1 ht hi v n xs hown, ?_, ⟨rfl, rfl, rfl, Nat.le_refl _, fun _ _ _ => rfl⟩, .inl rfl⟩
    rw [List.append_nil]
    exact hown
  | some ad =>
    obtain ⟨v', w', hr, h2, h3, _, h5⟩ := run_append_own_at (P := P) w base t ty e i z 1 bytes ht hi hz hsize hby hzs (by decide) v n xs hown ad m c news (by omega) (hnews ad rfl) h1 h63 hbytes hbase
    exact ⟨v', w', hr, h2, h3, h5⟩

theorem step_append_src {P : Program} (w : World) {ops : Array Oper} {o : Oper} {a : Act} {K : Act → World → Prop} {Q : Exit → Act → World → Prop} {E : Prop} (hgd : o.guard = none) (s x : Operand) (t : TypeId)
    (ho : o.op = .call { callee := .builtin .append, args := #[s, x], argTypes := #[t, t] }) (base : Nat) (e : TypeId) (i : TypeInfo) (z : Value) (bytes : Nat) (ht : P.underlying t = some (.slice e)) (hi : P.info? e = some i) (hz : i.zero = some z)
    (hsize : i.size = 1) (hby : i.bytes = bytes) (hzs : z.cells.size = 1)
    (v : Value) (n : Nat) (xs : List Value) (hs : a.eval s = v) (hown : w.ownsRow base e 1 v n xs)
    (xo : Option Addr) (m c : Nat) (news : List Value) (hx : a.eval x = .slice xo m c) (h0 : xo = none → m = 0 ∧ c = 0) (hl : news.length = m) (hnews : ∀ ad, xo = some ad → ∀ j u, news[j]? = some u → w.cell? (ad.add j) = some u) (h1 : ∀ u ∈ news, u.oneCell' = true)
    (h63 : n + m ≤ maxLen) (hbytes : (n + m) * bytes ≤ 140737488355328) (hbase : base ≤ w.heap.size)
    (h : ∀ v' w', Hid (w'.ownsRow base e 1 v' (n + m) (xs ++ news)) → Hid (w.grownBy w' v.ownBlock) → Hid (v'.ownBlock = v.ownBlock ∨ v'.ownBlock = some w.heap.size) → K (a.put o.dst v') w') :
    if Region.wanted o (yielded ops a.tmps) = true then Oper.wp P o a w K Q else E := by
  have hw : Region.wanted o (yielded ops a.tmps) = true := by simp [Region.wanted, hgd]
  rw [if_pos hw]
  obtain ⟨v', w', hr, h2, h3, h5⟩ := run_append_src (P := P) w base t o.type e i z bytes ht hi hz hsize hby hzs v n xs hown xo m c news h0 hl hnews h1 h63 hbytes hbase
  unfold Oper.wp execOp
  simp only [ho, resolve, invoke, builtin, Sem.run_bind, Sem.run_pure, Result.andThen_ok, List.map_toArray, List.map_cons, List.map_nil, hs, hx, hr]
  exact h v' w' h2 h3 h5

/-- Lists of numbers that a call owns, each apart from the others. -/
structure OwnMat (E : TypeId) (B : Nat) (w : World) (v : Value) (vs : List Value) (xs : List (List Int)) : Prop where
  outer : w.ownsRow B E 1 v xs.length vs
  inner : ∀ i, i < xs.length → w.ownsRow B 3 1 (vs.getD i noS) (xs.getD i []).length (intsC (xs.getD i []))
  apart : ∀ i j, i < xs.length → j < xs.length → i ≠ j → (vs.getD i noS).ownBlock = none ∨ (vs.getD i noS).ownBlock ≠ (vs.getD j noS).ownBlock
  aside : ∀ i, i < xs.length → (vs.getD i noS).ownBlock = none ∨ (vs.getD i noS).ownBlock ≠ v.ownBlock

theorem OwnMat.empty (E : TypeId) (B : Nat) (w : World) : OwnMat E B w noS [] [] :=
  ⟨World.ownsRow_nil w B E 1, fun i hi => absurd hi (Nat.not_lt_zero _), fun i j hi => absurd hi (Nat.not_lt_zero _), fun i hi => absurd hi (Nat.not_lt_zero _)⟩
theorem OwnMat.vlen {E : TypeId} {B : Nat} {w : World} {v : Value} {vs : List Value} {xs : List (List Int)} (h : OwnMat E B w v vs xs) : vs.length = xs.length := by
  have := h.outer.1
  omega
theorem OwnMat.next {E : TypeId} {B : Nat} {w w' : World} {v : Value} {vs : List Value} {xs : List (List Int)} (h : OwnMat E B w v vs xs) (hB : Below w.heap.size w w') : OwnMat E B w' v vs xs :=
  ⟨owns_below h.outer hB, fun i hi => owns_below (h.inner i hi) hB, h.apart, h.aside⟩
theorem OwnMat.kept {E : TypeId} {B : Nat} {w w' : World} {v : Value} {vs : List Value} {xs : List (List Int)} (h : OwnMat E B w v vs xs) {row : Option Nat} (hg : w.grownBy w' row) (h1 : v.ownBlock = Option.none ∨ v.ownBlock ≠ row) (h2 : ∀ i, i < xs.length → (vs.getD i noS).ownBlock = Option.none ∨ (vs.getD i noS).ownBlock ≠ row) : OwnMat E B w' v vs xs :=
  ⟨h.outer.kept hg h1, fun i hi => (h.inner i hi).kept hg (h2 i hi), h.apart, h.aside⟩
/-- A block that is not yet there is none of its own. -/
theorem owns_new {w : World} {base : Nat} {e : TypeId} {size : Nat} {v : Value} {n : Nat} {xs : List Value} (h : w.ownsRow base e size v n xs) {b : Option Nat} (hb : ∀ k, b = some k → w.heap.size ≤ k) : v.ownBlock = Option.none ∨ v.ownBlock ≠ b := by
  cases hv : v.ownBlock with
  | none => exact .inl rfl
  | some k =>
    right
    intro e
    have h1 := (h.lt k hv).2
    have h2 := hb k e.symm
    omega

theorem getD_snoc_lt {α : Type} (l : List α) (x d : α) (i : Nat) (h : i < l.length) : (l ++ [x]).getD i d = l.getD i d := by
  rw [List.getD_eq_getElem?_getD, List.getElem?_append_left h, List.getD_eq_getElem?_getD]
theorem getD_snoc_eq {α : Type} (l : List α) (x d : α) (i : Nat) (h : i = l.length) : (l ++ [x]).getD i d = x := by
  subst h
  rw [List.getD_eq_getElem?_getD, List.getElem?_append_right (Nat.le_refl _)]
  simp

/-- One more list, appended. -/
theorem OwnMat.push {E : TypeId} {B : Nat} {w w' : World} {v v' : Value} {vs : List Value} {xs : List (List Int)} (h : OwnMat E B w v vs xs) {u : Value} {l : List Int} (hu : w.ownsRow B 3 1 u l.length (intsC l))
    (ha : ∀ i, i < xs.length → (vs.getD i noS).ownBlock = Option.none ∨ (vs.getD i noS).ownBlock ≠ u.ownBlock) (hv : u.ownBlock = Option.none ∨ u.ownBlock ≠ v.ownBlock)
    (ho : w'.ownsRow B E 1 v' (xs.length + 1) (vs ++ [u])) (hg : w.grownBy w' v.ownBlock) (hb : v'.ownBlock = v.ownBlock ∨ v'.ownBlock = some w.heap.size) : OwnMat E B w' v' (vs ++ [u]) (xs ++ [l]) := by
  have hvl := h.vlen
  have hnew : ∀ {x : Value} {n : Nat} {ys : List Value}, w.ownsRow B 3 1 x n ys → (x.ownBlock = Option.none ∨ x.ownBlock ≠ v.ownBlock) → (x.ownBlock = Option.none ∨ x.ownBlock ≠ v'.ownBlock) := fun {x} {n} {ys} hx hxv => by
    rcases hb with e | e
    · rw [e]
      exact hxv
    · exact owns_new hx (fun k hk => by rw [e] at hk; cases hk; exact Nat.le_refl _)
  refine ⟨by rw [List.length_append]; exact ho, fun i hi => ?_, fun i j hi hj hij => ?_, fun i hi => ?_⟩
  · rw [List.length_append] at hi
    by_cases e : i < xs.length
    · rw [getD_snoc_lt _ _ _ _ (by omega), getD_snoc_lt _ _ _ _ e]
      exact (h.inner i e).kept hg (h.aside i e)
    · have e2 : i = xs.length := by simp at hi; omega
      rw [getD_snoc_eq _ _ _ _ (by omega), getD_snoc_eq _ _ _ _ e2]
      exact hu.kept hg hv
  · rw [List.length_append] at hi hj
    simp only [List.length_cons, List.length_nil] at hi hj
    by_cases e : i < xs.length
    · rw [getD_snoc_lt _ _ _ _ (by omega)]
      by_cases e2 : j < xs.length
      · rw [getD_snoc_lt _ _ _ _ (by omega)]
        exact h.apart i j e e2 hij
      · rw [getD_snoc_eq _ _ _ _ (by omega)]
        exact ha i e
    · rw [getD_snoc_eq _ _ _ i (by omega), getD_snoc_lt _ _ _ j (by omega)]
      rcases ha j (by omega) with q | q
      · rw [q]
        cases hu0 : u.ownBlock with
        | none => exact .inl rfl
        | some k => exact .inr (by simp)
      · exact .inr (fun e => q e.symm)
  · rw [List.length_append] at hi
    simp only [List.length_cons, List.length_nil] at hi
    by_cases e : i < xs.length
    · rw [getD_snoc_lt _ _ _ _ (by omega)]
      exact hnew (h.inner i e) (h.aside i e)
    · rw [getD_snoc_eq _ _ _ _ (by omega)]
      exact hnew hu hv

end Go.Proofs.Ytfnkdahocehilaa

namespace Go.Proofs.Ytfnkdahocehilaa
open Go.RowKit
set_option linter.unusedSimpArgs false
set_option linter.unusedVariables false

theorem getD_set_eq {α : Type} (l : List α) (x d : α) (i : Nat) (h : i < l.length) : (l.set i x).getD i d = x := by
  rw [List.getD_eq_getElem?_getD, List.getElem?_set_self h]
  rfl
theorem getD_set_ne {α : Type} (l : List α) (x d : α) (i j : Nat) (h : i ≠ j) : (l.set i x).getD j d = l.getD j d := by
  rw [List.getD_eq_getElem?_getD, List.getElem?_set_ne h, List.getD_eq_getElem?_getD]
theorem ne_swap {a b : Option Nat} (h : a = none ∨ a ≠ b) : b = none ∨ b ≠ a := by
  rcases h with h | h
  · cases b with
    | none => exact .inl rfl
    | some k => exact .inr (by rw [h]; simp)
  · exact .inr (fun e => h e.symm)

/-- One list grows, and its place in the row of lists is told so. -/
theorem OwnMat.set {E : TypeId} {B : Nat} {w w1 : World} {v : Value} {vs : List Value} {xs : List (List Int)} (h : OwnMat E B w v vs xs) (i : Nat) (hi : i < xs.length) {u' : Value} {l' : List Int}
    (hg : w.grownBy w1 (vs.getD i noS).ownBlock) (hu : w1.ownsRow B 3 1 u' l'.length (intsC l')) (hb : u'.ownBlock = (vs.getD i noS).ownBlock ∨ u'.ownBlock = some w.heap.size) (g cap : Nat) (hv : v = .slice (some ⟨g, 0, none⟩) xs.length cap) :
    OwnMat E B (w1.setCell ⟨g, i, none⟩ u') v (vs.set i u') (xs.set i l') := by
  have hvl := h.vlen
  have hvb : v.ownBlock = some g := by rw [hv]; rfl
  have hgl := (h.outer.lt g hvb).2
  have hug : u'.ownBlock ≠ some g := by
    rcases hb with e | e
    · rw [e]
      rcases h.aside i hi with q | q
      · rw [q]; simp
      · rw [hvb] at q; exact q
    · rw [e]
      intro e2
      cases e2
      omega
  have hout := h.outer.kept hg (ne_swap (h.aside i hi))
  have hnew : ∀ j, j < xs.length → j ≠ i → (vs.getD j noS).ownBlock = none ∨ (vs.getD j noS).ownBlock ≠ u'.ownBlock := fun j hj hji => by
    rcases hb with e | e
    · rw [e]
      exact h.apart j i hj hi hji
    · exact owns_new (h.inner j hj) (fun k hk => by rw [e] at hk; cases hk; exact Nat.le_refl _)
  refine ⟨?_, fun j hj => ?_, fun j k hj hk hjk => ?_, fun j hj => ?_⟩
  · rw [List.length_set]
    rw [hv] at hout ⊢
    exact (hout.stored i u').1
  · rw [List.length_set] at hj
    by_cases e : i = j
    · subst e
      rw [getD_set_eq _ _ _ _ (by omega), getD_set_eq _ _ _ _ hi]
      exact ownsRow_setCell_other hu hug _
    · rw [getD_set_ne _ _ _ _ _ e, getD_set_ne _ _ _ _ _ e]
      refine ownsRow_setCell_other ((h.inner j hj).kept hg (h.apart j i hj hi (fun q => e q.symm))) ?_ _
      rcases h.aside j hj with q | q
      · rw [q]; simp
      · rw [hvb] at q; exact q
  · rw [List.length_set] at hj hk
    by_cases e : i = j
    · subst e
      rw [getD_set_eq _ _ _ _ (by omega), getD_set_ne _ _ _ _ _ hjk]
      exact ne_swap (hnew k hk (fun q => hjk q.symm))
    · rw [getD_set_ne _ _ _ _ _ e]
      by_cases e2 : i = k
      · subst e2
        rw [getD_set_eq _ _ _ _ (by omega)]
        exact hnew j hj (fun q => e q.symm)
      · rw [getD_set_ne _ _ _ _ _ e2]
        exact h.apart j k hj hk hjk
  · rw [List.length_set] at hj
    by_cases e : i = j
    · subst e
      rw [getD_set_eq _ _ _ _ (by omega), hvb]
      exact .inr hug
    · rw [getD_set_ne _ _ _ _ _ e]
      exact h.aside j hj

/-- Rows of new memory: from block B on, and they may be written. -/
structure Fresh (B : Nat) (w : World) (ao : Option Addr) (xs : List (List Int)) : Prop where
  own : ∀ b off, ao = some ⟨b, off, none⟩ → 0 < xs.length → B ≤ b
  rows : ∀ b off, ao = some ⟨b, off, none⟩ → ∀ i, i < xs.length → ∀ a n c, w.cell? ⟨b, off + i, none⟩ = some (.slice a n c) → ∀ ba oa, a = some ⟨ba, oa, none⟩ → B ≤ ba ∧ ∀ j, w.frozen? ⟨ba, j, none⟩ = false

/-- What a call owns, read as rows. -/
theorem OwnMat.rows {E : TypeId} {B : Nat} {w : World} {v : Value} {vs : List Value} {xs : List (List Int)} (h : OwnMat E B w v vs xs) (hx : xs.length ≤ 5864062014805)
    (hl : ∀ i, i < xs.length → (xs.getD i []).length ≤ 17592186044415 ∧ ∀ n ∈ xs.getD i [], -9223372036854775808 ≤ n ∧ n ≤ 9223372036854775807) :
    ∃ ao cap, v = .slice ao xs.length cap ∧ RowsAt w ao xs ∧ Fresh B w ao xs := by
  have hvl := h.vlen
  have hin : ∀ i, i < xs.length → ∃ a c, vs.getD i noS = .slice a (xs.getD i []).length c ∧ (xs.getD i []).length ≤ c ∧ (a = none → c = 0) ∧ IntsAt w a (xs.getD i []) ∧ ∀ ba oa, a = some ⟨ba, oa, none⟩ → B ≤ ba ∧ ∀ j, w.frozen? ⟨ba, j, none⟩ = false := fun i hi => by
    have hr := h.inner i hi
    obtain ⟨l1, l2⟩ := hl i hi
    rcases hr.2 with ⟨e, e0⟩ | ⟨g, c, cur, e, hb, hg, hn, hm, hs, ht⟩
    · refine ⟨none, 0, by rw [e, e0], by omega, fun _ => rfl, ⟨l1, l2, fun q => (by omega)⟩, fun ba oa q => (by cases q)⟩
    · refine ⟨some ⟨g, 0, none⟩, c, e, hn, fun q => (by cases q), ⟨l1, l2, fun q => ⟨g, 0, rfl, fun j hj => ?_⟩⟩, fun ba oa q => ?_⟩
      · have := hr.cells (g := g) (by rw [e]; rfl) j (.int .i64 ((xs.getD i []).getD j 0)) (by
          rw [intsC, List.getElem?_map, List.getElem?_eq_getElem hj, List.getD_eq_getElem?_getD (l := xs.getD i []), List.getElem?_eq_getElem hj]
          rfl)
        rw [Addr.add_mid] at this
        exact this
      · cases q
        exact ⟨hb, fun j => by simp [World.frozen?, hg]⟩
  rcases h.outer.2 with ⟨e, e0⟩ | ⟨g, c, cur, e, hb, hg, hn, hm, hs, ht⟩
  · exact ⟨none, 0, by rw [e, e0], ⟨hx, fun q => by omega⟩, ⟨fun b off q => (by cases q), fun b off q => (by cases q)⟩⟩
  · have hcell : ∀ i, i < xs.length → w.cell? ⟨g, 0 + i, none⟩ = some (vs.getD i noS) := fun i hi => by
      have := h.outer.cells (g := g) (by rw [e]; rfl) i (vs.getD i noS) (by
        rw [List.getD_eq_getElem?_getD, List.getElem?_eq_getElem (by omega)]
        rfl)
      rw [Addr.add_mid] at this
      exact this
    refine ⟨some ⟨g, 0, none⟩, c, e, ⟨hx, fun q => ⟨g, 0, rfl, fun i hi => ?_⟩⟩, ⟨fun b off q _ => (by cases q; exact hb), fun b off q i hi a n c' hc ba oa ha => ?_⟩⟩
    · obtain ⟨a, c', e1, e2, e3, e4, _⟩ := hin i hi
      exact ⟨a, c', by rw [hcell i hi, e1], e2, e3, e4⟩
    · cases q
      obtain ⟨a', c'', e1, _, _, _, e5⟩ := hin i hi
      rw [hcell i hi, e1] at hc
      cases hc
      exact e5 ba oa ha

end Go.Proofs.Ytfnkdahocehilaa
