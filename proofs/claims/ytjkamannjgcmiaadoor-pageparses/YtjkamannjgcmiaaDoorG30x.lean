/- Own text: a row of sheets in memory; what speaks against a page. sheets that are collected, plainly. -/
import Derived.Test.YtjkamannjgcmiaaDoorQ15rd
import Derived.Test.YtjkamannjgcmiaaDoorG29x
namespace Go.Proofs.YtjkamannjgcmiaaDoor
open Go.RowKit
set_option linter.unusedSimpArgs false
set_option linter.unusedVariables false

/-- A sheet and where its laces lie. -/
abbrev SP := Sh × Option Addr × Nat
def shsC (L : List SP) : List Value := L.flatMap fun y => shC y.1 y.2.1 y.2.2
theorem shsC_app (L M : List SP) : shsC (L ++ M) = shsC L ++ shsC M := by unfold shsC; rw [List.flatMap_append]
theorem shsC_one (y : SP) : shsC [y] = shC y.1 y.2.1 y.2.2 := by unfold shsC; rw [List.flatMap_cons, List.flatMap_nil, List.append_nil]
theorem shsC_len (L : List SP) : (shsC L).length = L.length * 6 := by
  induction L with
  | nil => rfl
  | cons y t ih =>
    have e : shsC (y :: t) = shC y.1 y.2.1 y.2.2 ++ shsC t := by unfold shsC; rw [List.flatMap_cons]
    have h6 : (shC y.1 y.2.1 y.2.2).length = 6 := rfl
    have h1 : (y :: t).length = t.length + 1 := rfl
    rw [e, List.length_append, ih, h6, h1]
    omega
theorem shsC_at (L : List SP) (i : Nat) (y : SP) (h : L[i]? = some y) (j : Nat) (v : Value) (hv : (shC y.1 y.2.1 y.2.2)[j]? = some v) : (shsC L)[i * 6 + j]? = some v := by
  induction L generalizing i with
  | nil => simp at h
  | cons z t ih =>
    have e : shsC (z :: t) = shC z.1 z.2.1 z.2.2 ++ shsC t := by unfold shsC; rw [List.flatMap_cons]
    have hj : j < 6 := (List.getElem?_eq_some_iff.1 hv).1
    cases i with
    | zero =>
      injection h with h
      subst h
      rw [e, Nat.zero_mul, Nat.zero_add, List.getElem?_append_left (List.getElem?_eq_some_iff.1 hv).1]
      exact hv
    | succ i =>
      rw [e, List.getElem?_append_right (by show 6 ≤ _; omega), show (i + 1) * 6 + j - (shC z.1 z.2.1 z.2.2).length = i * 6 + j from by show (i + 1) * 6 + j - 6 = _; omega]
      exact ih i h
structure SAt (q : Nat) (W : World) (y : SP) (v : Value) : Prop where
  pg : PgAt W y.1.p y.2.1 y.2.2
  ap : 0 < y.1.p.la.length → ∀ b, blockOf y.2.1 = some b → b < W.heap.size ∧ v.ownBlock ≠ some b ∧ b ≠ q
/-- A row of sheets: its box, the row itself. -/
structure RW (B q : Nat) (W : World) (L : List SP) (v : Value) (op : Bool) : Prop where
  bx : Box W q #[v, .bool op] 72
  own : W.ownsRow B 74 6 v L.length (shsC L)
  lac : ∀ y ∈ L, SAt q W y v
  qB : q < B
  Bq : B ≤ q + 1
section
variable {B q : Nat} {W W' : World} {L : List SP} {v v' : Value} {op : Bool} {y : SP}
theorem SAt.ck (h : SAt q W y v) (k : Ck W W') : SAt q W' y v := ⟨k.pg h.pg, fun h0 b e => ⟨Nat.lt_of_lt_of_le (h.ap h0 b e).1 k.size, (h.ap h0 b e).2⟩⟩
theorem RW.ck (h : RW B q W L v op) (k : Ck W W') : RW B q W' L v op := ⟨k.box h.bx, k.owns h.own, fun y hy => (h.lac y hy).ck k, h.qB, h.Bq⟩
theorem RW.low (h : RW B q W L v op) (k : Below W.heap.size W W') : RW B q W' L v op := h.ck (Ck.of k)
theorem RW.blk (h : RW B q W L v op) (k : Nat) (hk : v.ownBlock = some k) : B ≤ k := (h.own.lt k hk).1
theorem RW.blk2 (h : RW B q W L v op) (k : Nat) (hk : v.ownBlock = some k) : k < W.heap.size := (h.own.lt k hk).2
theorem PgAt.otherc {p : Pg} {ao : Option Addr} {c g j : Nat} (h : PgAt W p ao c) (hg : 0 < p.la.length → ∀ b, blockOf ao = some b → b ≠ g) (u : Value) : PgAt (W.setCell ⟨g, j, none⟩ u) p ao c := ⟨h.la.keep1 fun h0 b hb => Below.heap_setCell _ _ _ _ (hg h0 b hb), h.le, h.no⟩
theorem RW.setop (h : RW B q W L v op) (o : Bool) : RW B q (W.setCell ⟨q, 1, none⟩ (.bool o)) L v o :=
  ⟨h.bx.setc _, owns_other h.own h.qB _, fun y hy => ⟨(h.lac y hy).pg.otherc (fun h0 b hb => ((h.lac y hy).ap h0 b hb).2.2) _, fun h0 b e => ⟨by have := ((h.lac y hy).ap h0 b e).1; simpa [World.setCell] using this, ((h.lac y hy).ap h0 b e).2⟩⟩, h.qB, h.Bq⟩
theorem SAt.grow (h : SAt q W y v) (hg : W.grownBy W' v.ownBlock) (hv : v'.ownBlock = v.ownBlock ∨ v'.ownBlock = some W.heap.size) : SAt q W' y v' := by
  refine ⟨⟨h.pg.la.keep1 fun h0 b hb => hg.block b (h.ap h0 b hb).1 (fun e => (h.ap h0 b hb).2.1 e.symm), h.pg.le, h.pg.no⟩, fun h0 b hb => ⟨Nat.lt_of_lt_of_le (h.ap h0 b hb).1 hg.size, ?_, (h.ap h0 b hb).2.2⟩⟩
  have hl := (h.ap h0 b hb).1
  rcases hv with e | e
  · rw [e]; exact (h.ap h0 b hb).2.1
  · rw [e]; intro q; injection q with q; omega
theorem RW.push (h : RW B q W L v op) (hy : SAt q W y v) (ho : W'.ownsRow B 74 6 v' (L.length + 1) (shsC L ++ shC y.1 y.2.1 y.2.2)) (hg : W.grownBy W' v.ownBlock) (hv : v'.ownBlock = v.ownBlock ∨ v'.ownBlock = some W.heap.size) : RW B q (W'.setCell ⟨q, 0, none⟩ v') (L ++ [y]) v' op ∧ Box W' q #[v, .bool op] 72 := by
  have hb := box_grown h.bx hg (fun e => by have := h.blk q e; have := h.qB; omega)
  have hs : ∀ z ∈ L ++ [y], SAt q W' z v' := fun z hz => by
    rcases List.mem_append.1 hz with hz | hz
    · exact (h.lac z hz).grow hg hv
    · rw [List.mem_singleton] at hz
      subst hz
      exact hy.grow hg hv
  refine ⟨⟨hb.setc _, ?_, fun z hz => ⟨(hs z hz).pg.otherc (fun h0 b hb => ((hs z hz).ap h0 b hb).2.2) _, fun h0 b e => ⟨by have := ((hs z hz).ap h0 b e).1; simpa [World.setCell] using this, ((hs z hz).ap h0 b e).2⟩⟩, h.qB, h.Bq⟩, hb⟩
  rw [List.length_append, shsC_app, shsC_one]
  exact owns_other ho h.qB _
end
/-- What speaks against a page behind others. -/
abbrev pSer (P : List Pg) (p : Pg) : Prop := P.length = 0 ∨ p.se = (P.getD 0 Pg0).se
abbrev pOrd (P : List Pg) (op : Bool) (p : Pg) : Prop := p.sq = P.length ∧ (p.fl / 2 % 2 = 1 ↔ P.length = 0) ∧ (p.fl % 2 = 1 ↔ op = true)
def tkE (P : List Pg) (op : Bool) (p : Pg) : Int := if ¬ mayOk p then 2 else if P.length = 65536 then 5 else if ¬ pSer P p then 3 else if ¬ pOrd P op p then 2 else 0
def opE (op : Bool) (la : List Int) : Bool := if la = [] then op else decide (la.getD (la.length - 1) 0 = 255)
def pgsOf (L : List SP) : List Pg := L.map fun y => y.1.p

end Go.Proofs.YtjkamannjgcmiaaDoor

namespace Go.Proofs.YtjkamannjgcmiaaDoor
open Go.RowKit
set_option linter.unusedSimpArgs false
set_option linter.unusedVariables false

/-- The last page alone bears the last page's mark; no packet goes on. -/
def whB (P : List Pg) (op : Bool) : Bool := lasB P && decide (P ≠ []) && !op
theorem las_iff : ∀ P : List Pg, lasB P = true ↔ ∀ i p, P[i]? = some p → (p.fl / 4 % 2 = 1 ↔ i + 1 = P.length)
  | [] => by simp [lasB]
  | [p] => by
    rw [lasB, decide_eq_true_iff]
    constructor
    · intro h i q hi
      cases i with
      | zero => injection hi with hi; subst hi; simp [h]
      | succ i => simp at hi
    · intro h
      have := h 0 p rfl
      simpa using this
  | p :: q :: t => by
    have ih := las_iff (q :: t)
    rw [lasB, Bool.and_eq_true, decide_eq_true_iff, ih]
    constructor
    · rintro ⟨h1, h2⟩ i r hi
      cases i with
      | zero =>
        injection hi with hi
        subst hi
        constructor
        · intro h; exact absurd h h1
        · intro h; simp at h
      | succ i =>
        have := h2 i r hi
        rw [this]
        simp
    · intro h
      refine ⟨fun h0 => ?_, fun i r hi => ?_⟩
      · have := (h 0 p rfl).1 h0
        simp at this
      · have := h (i + 1) r hi
        rw [this]
        simp
abbrev SE := SP × Int
abbrev PE := Sh × Int
def plE (x : SE) : PE := (x.1.1, x.2)
def plL (xs : List SE) : List PE := xs.map plE
def opF (xs : List PE) : Bool := xs.foldl (fun o x => opE o x.1.p.la) false
def pgF (xs : List PE) : List Pg := xs.map fun x => x.1.p
def colE (pre : List PE) (x : PE) : Int := if x.2 ≠ 0 then x.2 else tkE (pgF pre) (opF pre) x.1.p
theorem opF_snoc (xs : List PE) (x : PE) : opF (xs ++ [x]) = opE (opF xs) x.1.p.la := by unfold opF; rw [List.foldl_append]; rfl
theorem pgF_snoc (xs : List PE) (x : PE) : pgF (xs ++ [x]) = pgF xs ++ [x.1.p] := by unfold pgF; rw [List.map_append]; rfl
theorem plL_snoc (xs : List SE) (x : SE) : plL (xs ++ [x]) = plL xs ++ [plE x] := by unfold plL; rw [List.map_append]; rfl
/-- Nothing speaks against these, one behind the other. -/
def OkC (X : List PE) : Prop := ∀ i x, X[i]? = some x → colE (X.take i) x = 0
theorem OkC.nil : OkC [] := fun i x h => by simp at h
theorem OkC.snoc {X : List PE} {x : PE} (h : OkC X) (hx : colE X x = 0) : OkC (X ++ [x]) := fun i y hi => by
  rcases Nat.lt_trichotomy i X.length with hl | hl | hl
  · rw [List.getElem?_append_left hl] at hi
    rw [List.take_append_of_le_length (by omega)]
    exact h i y hi
  · subst hl
    rw [List.getElem?_append_right (Nat.le_refl _), Nat.sub_self] at hi
    injection hi with hi
    subst hi
    rw [List.take_append_of_le_length (Nat.le_refl _), List.take_of_length_le (Nat.le_refl _)]
    exact hx
  · rw [List.getElem?_eq_none (by rw [List.length_append, List.length_singleton]; omega)] at hi
    cases hi
theorem tkE_zero {P : List Pg} {op : Bool} {p : Pg} (h : tkE P op p = 0) : mayOk p ∧ P.length ≠ 65536 ∧ pSer P p ∧ pOrd P op p := by
  unfold tkE at h
  by_cases h1 : mayOk p
  · rw [if_neg (fun q => q h1)] at h
    by_cases h2 : P.length = 65536
    · rw [if_pos h2] at h; exact absurd h (by decide)
    · rw [if_neg h2] at h
      by_cases h3 : pSer P p
      · rw [if_neg (fun q => q h3)] at h
        by_cases h4 : pOrd P op p
        · exact ⟨h1, h2, h3, h4⟩
        · rw [if_pos h4] at h; exact absurd h (by decide)
      · rw [if_pos h3] at h; exact absurd h (by decide)
  · rw [if_pos h1] at h; exact absurd h (by decide)
theorem colE_zero {X : List PE} {x : PE} (h : colE X x = 0) : x.2 = 0 ∧ tkE (pgF X) (opF X) x.1.p = 0 := by
  unfold colE at h
  by_cases h1 : x.2 = 0
  · rw [if_neg (fun q => q h1)] at h
    exact ⟨h1, h⟩
  · rw [if_pos h1] at h
    exact absurd h h1
theorem OkC.len {X : List PE} (h : OkC X) : X.length ≤ 65536 := by
  rcases Nat.lt_or_ge 65536 X.length with hl | hl
  · have h1 := (tkE_zero (colE_zero (h 65536 _ (List.getElem?_eq_getElem hl))).2).2.1
    exact absurd (by unfold pgF; rw [List.length_map, List.length_take]; omega) h1
  · exact hl
theorem OkC.may {X : List PE} (h : OkC X) : ∀ x ∈ X, mayOk x.1.p ∧ x.2 = 0 := fun x hx => by
  obtain ⟨i, hi⟩ := List.getElem?_of_mem hx
  have := colE_zero (h i x hi)
  exact ⟨(tkE_zero this.2).1, this.1⟩
/-- All of them. -/
def runC : List PE → List PE → Int × List Sh
  | [], Y => if whB (pgF Y) (opF Y) = true then (0, Y.map Prod.fst) else (2, [])
  | x :: t, Y => if colE Y x = 0 then runC t (Y ++ [x]) else (colE Y x, [])
theorem run_ok : ∀ (X Y Z : List PE), OkC (Y ++ X) → runC (X ++ Z) Y = runC Z (Y ++ X)
  | [], Y, Z, _ => by rw [List.nil_append, List.append_nil]
  | x :: t, Y, Z, h => by
    have hx : colE Y x = 0 := by
      have := h Y.length x (by rw [List.getElem?_append_right (Nat.le_refl _), Nat.sub_self]; rfl)
      rwa [List.take_append_of_le_length (Nat.le_refl _), List.take_of_length_le (Nat.le_refl _)] at this
    rw [List.cons_append, runC, if_pos hx, run_ok t (Y ++ [x]) Z (by rw [List.append_assoc]; exact h), List.append_assoc]
    rfl
theorem run_all {X : List PE} (h : OkC X) : runC X [] = if whB (pgF X) (opF X) = true then (0, X.map Prod.fst) else (2, []) := by
  have := run_ok X [] [] h
  rw [List.append_nil, List.nil_append] at this
  rw [this, runC]
theorem run_bad {X p : List PE} {x : PE} (hp : p ++ [x] <+: X) (h : OkC p) (hx : colE p x ≠ 0) : runC X [] = (colE p x, []) := by
  obtain ⟨Z, rfl⟩ := hp
  have := run_ok p [] ([x] ++ Z) h
  rw [List.nil_append, ← List.append_assoc] at this
  rw [this, List.singleton_append, runC, if_neg hx]

end Go.Proofs.YtjkamannjgcmiaaDoor
