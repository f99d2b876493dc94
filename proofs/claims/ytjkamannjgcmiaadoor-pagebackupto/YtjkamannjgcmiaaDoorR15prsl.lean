/- Own text: what the document's Parse carries. -/
import Derived.Test.YtjkamannjgcmiaaDoorR15pkt
namespace Go.Proofs.YtjkamannjgcmiaaDoor
open Go.RowKit
set_option linter.unusedSimpArgs false
set_option linter.unusedVariables false

theorem info_page4 : (Tryd.prog.info? 49).map (fun i => (i.zero, i.size, i.bytes)) = some (some (.agg zeroP), 5, 56) := info_page3
theorem info9 : (Tryd.prog.info? 9).map (fun i => (i.zero, i.size, i.bytes)) = some (some (.string ⟨#[]⟩), 1, 16) := by kernel_rfl
/-- A page and where its laces lie. -/
abbrev QP := Pg × Option Addr × Nat
def qcs (Q : List QP) : List Value := Q.flatMap fun q => pgC q.1 q.2.1 q.2.2
theorem qcs_snoc (Q : List QP) (q : QP) : qcs (Q ++ [q]) = qcs Q ++ pgC q.1 q.2.1 q.2.2 := by simp [qcs]
theorem qcs_get : ∀ (Q : List QP) (i : Nat) (q : QP), Q[i]? = some q → ∀ j v, (pgC q.1 q.2.1 q.2.2)[j]? = some v → (qcs Q)[i * 5 + j]? = some v
  | [], i, q, h => by simp at h
  | x :: t, 0, q, h => by
    simp at h
    subst h
    intro j v hj
    have e : qcs (x :: t) = pgC x.1 x.2.1 x.2.2 ++ qcs t := by simp [qcs]
    rw [e, Nat.zero_mul, Nat.zero_add, List.getElem?_append_left (List.getElem?_eq_some_iff.1 hj).1]
    exact hj
  | x :: t, i + 1, q, h => by
    intro j v hj
    have ih := qcs_get t i q (by simpa using h) j v hj
    have e : qcs (x :: t) = pgC x.1 x.2.1 x.2.2 ++ qcs t := by simp [qcs]
    rw [e, List.getElem?_append_right (by simp; omega), ← ih]
    congr 1
    simp
    omega
theorem IntsAt.keep1 {w w' : World} {ao : Option Addr} {l : List Int} (h : IntsAt w ao l) (hb : 0 < l.length → ∀ b, blockOf ao = some b → w'.heap[b]? = w.heap[b]?) : IntsAt w' ao l := by
  refine ⟨h.len, h.num, fun h0 => ?_⟩
  obtain ⟨b, off, e, hc⟩ := h.lies h0
  refine ⟨b, off, e, fun j hj => ?_⟩
  rw [← hc j hj]
  exact World.cell?_of_block (w := w) (hb h0 b (by rw [e]; rfl))
theorem IntsAt.blt {w : World} {ao : Option Addr} {l : List Int} (h : IntsAt w ao l) (h0 : 0 < l.length) : ∀ b, blockOf ao = some b → b < w.heap.size := by
  intro b hb
  obtain ⟨b', off, e, hc⟩ := h.lies h0
  rw [e] at hb
  injection hb with hb
  rw [← hb]
  exact lt_cell (hc 0 h0)
/-- A page's laces lie apart from the two rows. -/
structure LacAt (wx : World) (q : QP) (v5 v6 : Value) : Prop where
  pg : PgAt wx q.1 q.2.1 q.2.2
  ap : 0 < q.1.la.length → ∀ b, blockOf q.2.1 = some b → v5.ownBlock ≠ some b ∧ v6.ownBlock ≠ some b
section
variable {wx w' : World} {q : QP} {v5 v6 v : Value}
theorem LacAt.low (h : LacAt wx q v5 v6) (hb : Below wx.heap.size wx w') : LacAt w' q v5 v6 := ⟨h.pg.below hb, h.ap⟩
theorem LacAt.grow6 (h : LacAt wx q v5 v6) (hg : wx.grownBy w' v6.ownBlock) (hv : v.ownBlock = v6.ownBlock ∨ v.ownBlock = some wx.heap.size) : LacAt w' q v5 v := by
  refine ⟨⟨h.pg.la.keep1 fun h0 b hb => hg.block b (h.pg.la.blt h0 b hb) (fun e => (h.ap h0 b hb).2 e.symm), h.pg.le, h.pg.no⟩, fun h0 b hb => ⟨(h.ap h0 b hb).1, ?_⟩⟩
  have hl := h.pg.la.blt h0 b hb
  rcases hv with e | e
  · rw [e]; exact (h.ap h0 b hb).2
  · rw [e]; intro q; injection q with q; omega
theorem LacAt.grow5 (h : LacAt wx q v5 v6) (hg : wx.grownBy w' v5.ownBlock) (hv : v.ownBlock = v5.ownBlock ∨ v.ownBlock = some wx.heap.size) : LacAt w' q v v6 := by
  refine ⟨⟨h.pg.la.keep1 fun h0 b hb => hg.block b (h.pg.la.blt h0 b hb) (fun e => (h.ap h0 b hb).1 e.symm), h.pg.le, h.pg.no⟩, fun h0 b hb => ⟨?_, (h.ap h0 b hb).2⟩⟩
  have hl := h.pg.la.blt h0 b hb
  rcases hv with e | e
  · rw [e]; exact (h.ap h0 b hb).1
  · rw [e]; intro q; injection q with q; omega
end
theorem own_grown {w w' : World} {base e size : Nat} {v u : Value} {n : Nat} {xs : List Value} (h : w.ownsRow base e size v n xs) (hg : w.grownBy w' u.ownBlock) (hne : ∀ b, v.ownBlock = some b → u.ownBlock ≠ some b) : w'.ownsRow base e size v n xs := by
  refine h.kept (row := u.ownBlock) hg ?_
  cases hv : v.ownBlock with
  | none => exact .inl rfl
  | some k => exact .inr (fun e => hne k hv e.symm)
theorem owns_sl {w : World} {base e size : Nat} {v : Value} {n : Nat} {xs : List Value} (h : w.ownsRow base e size v n xs) : ∃ ao cap, v = .slice ao n cap := by
  obtain ⟨ao, cap, e, _⟩ := owns_shape h
  exact ⟨ao, cap, e⟩
/-- Parse's rows: pages and packets. -/
structure XQ (w0 wx : World) (Q : List QP) (v5 : Value) (K : List ByteArray) (v6 : Value) : Prop where
  own5 : wx.ownsRow w0.heap.size 49 5 v5 Q.length (qcs Q)
  own6 : wx.ownsRow w0.heap.size 9 1 v6 K.length (K.map Value.string)
  lac : ∀ q ∈ Q, LacAt wx q v5 v6
  ne : ∀ b, v5.ownBlock = some b → v6.ownBlock ≠ some b
  bl : Below w0.heap.size w0 wx
structure YQ (w0 wx : World) (Q : List QP) (v5 : Value) (K : List ByteArray) (v6 : Value) (g : Nat) (q : QP) : Prop where
  xq : XQ w0 wx Q v5 K v6
  bx : Box wx g (pgC q.1 q.2.1 q.2.2).toArray 49
  cur : LacAt wx q v5 v6
  g5 : v5.ownBlock ≠ some g
  g6 : v6.ownBlock ≠ some g
  gl : w0.heap.size ≤ g
section
variable {w0 wx w' : World} {Q : List QP} {v5 v6 v' : Value} {K : List ByteArray} {g : Nat} {q : QP} {t : ByteArray}
theorem XQ.nil (w0 : World) : XQ w0 w0 [] noS [] noS := ⟨World.ownsRow_nil _ _ _ _, World.ownsRow_nil _ _ _ _, fun q hq => by simp at hq, fun b hb => (by cases hb), Below.refl _ _⟩
theorem XQ.low (h : XQ w0 wx Q v5 K v6) (hb : Below wx.heap.size wx w') : XQ w0 w' Q v5 K v6 := ⟨owns_below h.own5 hb, owns_below h.own6 hb, fun q hq => (h.lac q hq).low hb, h.ne, h.bl.trans (hb.mono h.bl.size)⟩
theorem YQ.low (h : YQ w0 wx Q v5 K v6 g q) (hb : Below wx.heap.size wx w') : YQ w0 w' Q v5 K v6 g q := ⟨h.xq.low hb, h.bx.keep hb, h.cur.low hb, h.g5, h.g6, h.gl⟩
theorem XQ.take (h : XQ w0 wx Q v5 K v6) {w2 : World} (hb : Below wx.heap.size wx w2) (hp : PgAt w2 q.1 q.2.1 q.2.2) (hf : ∀ b, blockOf q.2.1 = some b → wx.heap.size ≤ b) : YQ w0 (w2.alloc (.cells (pgC q.1 q.2.1 q.2.2).toArray 49)) Q v5 K v6 w2.heap.size q := by
  have l5 : ∀ b, v5.ownBlock = some b → b < wx.heap.size := fun b hb => (h.own5.lt b hb).2
  have l6 : ∀ b, v6.ownBlock = some b → b < wx.heap.size := fun b hb => (h.own6.lt b hb).2
  have hs := hb.size
  refine ⟨(h.low hb).low (below_new _ _), Box.new _ _ _, ⟨hp.below (below_new _ _), fun h0 b hb => ⟨fun e => ?_, fun e => ?_⟩⟩, fun e => ?_, fun e => ?_, ?_⟩
  · have := l5 b e; have := hf b hb; omega
  · have := l6 b e; have := hf b hb; omega
  · have := l5 _ e; omega
  · have := l6 _ e; omega
  · have := h.bl.size; omega
theorem YQ.push6 (h : YQ w0 wx Q v5 K v6 g q) (ho : w'.ownsRow w0.heap.size 9 1 v' (K.length + 1) (K.map Value.string ++ [.string t])) (hg : wx.grownBy w' v6.ownBlock) (hv : v'.ownBlock = v6.ownBlock ∨ v'.ownBlock = some wx.heap.size) : YQ w0 w' Q v5 (K ++ [t]) v' g q := by
  have l5 : ∀ b, v5.ownBlock = some b → b < wx.heap.size := fun b hb => (h.xq.own5.lt b hb).2
  refine ⟨⟨own_grown h.xq.own5 hg h.xq.ne, by rw [List.length_append, List.map_append]; exact ho, fun q hq => (h.xq.lac q hq).grow6 hg hv, fun b hb => ?_, grown_to hg h.xq.bl h.xq.bl.size (fun k e => (h.xq.own6.lt k e).1)⟩, ⟨by rw [hg.block _ h.bx.lt (fun e => h.g6 e.symm)]; exact h.bx.h⟩, h.cur.grow6 hg hv, h.g5, ?_, h.gl⟩
  · rcases hv with e | e
    · rw [e]; exact h.xq.ne b hb
    · rw [e]; intro q; injection q with q; have := l5 b hb; omega
  · rcases hv with e | e
    · rw [e]; exact h.g6
    · rw [e]; intro q; injection q with q; have := h.bx.lt; omega
theorem YQ.push5 (h : YQ w0 wx Q v5 K v6 g q) (ho : w'.ownsRow w0.heap.size 49 5 v' (Q.length + 1) (qcs Q ++ pgC q.1 q.2.1 q.2.2)) (hg : wx.grownBy w' v5.ownBlock) (hv : v'.ownBlock = v5.ownBlock ∨ v'.ownBlock = some wx.heap.size) : XQ w0 w' (Q ++ [q]) v' K v6 := by
  have l6 : ∀ b, v6.ownBlock = some b → b < wx.heap.size := fun b hb => (h.xq.own6.lt b hb).2
  have hne : ∀ b, v6.ownBlock = some b → v5.ownBlock ≠ some b := fun b hb e => h.xq.ne b e hb
  refine ⟨by rw [List.length_append, qcs_snoc]; exact ho, own_grown h.xq.own6 hg hne, fun x hx => ?_, fun b hb => ?_, grown_to hg h.xq.bl h.xq.bl.size (fun k e => (h.xq.own5.lt k e).1)⟩
  · rcases List.mem_append.1 hx with hx | hx
    · exact (h.xq.lac x hx).grow5 hg hv
    · rw [List.mem_singleton] at hx
      subst hx
      exact h.cur.grow5 hg hv
  · rcases hv with e | e
    · rw [e] at hb; exact h.xq.ne b hb
    · rw [e] at hb; injection hb with hb; intro q; have := l6 b q; omega
theorem XQ.pages (h : XQ w0 wx Q v5 K v6) : ∃ ao cap, v5 = .slice ao Q.length cap ∧ PgsAt wx ao (Q.map Prod.fst) ∧ Q.length ≤ cap ∧ (ao = none → cap = 0) := by
  obtain ⟨ao, cap, e, _, hle, hno, hat⟩ := owns_shape h.own5
  refine ⟨ao, cap, e, ⟨fun h0 => ?_⟩, hle, fun q => (hno q).2⟩
  rw [List.length_map] at h0
  cases ao with
  | none => have := (hno rfl).1; omega
  | some a =>
    obtain ⟨ea, _, _⟩ := hat a rfl
    have ho := h.own5
    rw [e, ea] at ho
    refine ⟨a.block, 0, by rw [ea], fun i p hi => ?_⟩
    rw [List.getElem?_map] at hi
    cases hq : Q[i]? with
    | none => rw [hq] at hi; cases hi
    | some q =>
      rw [hq] at hi
      injection hi with hi
      subst hi
      have hil := (List.getElem?_eq_some_iff.1 hq).1
      refine ⟨q.2.1, q.2.2, fun j v hj => ?_, (h.lac q (List.mem_of_getElem? hq)).pg⟩
      have hj5 := (List.getElem?_eq_some_iff.1 hj).1
      rw [Nat.zero_add, ho.cellAt (i * 5 + j) (by simp at hj5; omega)]
      exact qcs_get Q i q hq j v hj
theorem XQ.strs (h : XQ w0 wx Q v5 K v6) : ∃ ao cap, v6 = .slice ao K.length cap ∧ StrsAt wx ao K ∧ K.length ≤ cap ∧ (ao = none → cap = 0) := by
  obtain ⟨ao, cap, e, _, hle, hno, hat⟩ := owns_shape h.own6
  refine ⟨ao, cap, e, ⟨fun h0 => ?_⟩, hle, fun q => (hno q).2⟩
  cases ao with
  | none => have := (hno rfl).1; omega
  | some a =>
    obtain ⟨ea, _, _⟩ := hat a rfl
    have ho := h.own6
    rw [e, ea] at ho
    refine ⟨a.block, 0, by rw [ea], fun i t hi => ?_⟩
    have hil := (List.getElem?_eq_some_iff.1 hi).1
    rw [Nat.zero_add, ho.cellAt i (by omega), List.getElem?_map, hi]
    rfl
end
/-- What Parse answers. -/
def PrsE (r : Int × List Pg × List (List Nat)) (e : Ending) (w' : World) : Prop := ∃ ao pc bo kc, e = .returned (.tuple #[.slice ao r.2.1.length pc, .slice bo r.2.2.length kc, .int .i64 r.1]) ∧ PgsAt w' ao r.2.1 ∧ StrsAt w' bo (r.2.2.map textOf) ∧ r.2.1.length ≤ pc ∧ r.2.2.length ≤ kc ∧ (ao = none → pc = 0) ∧ (bo = none → kc = 0)
theorem PrsE.bad {r : Int × List Pg × List (List Nat)} {E : Int} (h : r = (E, [], [])) (w' : World) : PrsE r (.returned (.tuple #[.slice none 0 0, .slice none 0 0, .int .i64 E])) w' := by
  subst h
  exact ⟨none, 0, none, 0, rfl, PgsAt.nil _ _, StrsAt.nil _ _, Nat.le_refl _, Nat.le_refl _, fun _ => rfl, fun _ => rfl⟩
theorem text_bytes (K : List ByteArray) : (K.map bytesOf).map textOf = K := by
  rw [List.map_map]
  conv => rhs; rw [← List.map_id K]
  apply List.map_congr_left
  intro x _
  exact S2.textOf_bytesOf x
theorem PrsE.good {w0 wx : World} {r : Int × List Pg × List (List Nat)} {Q : List QP} {v5 v6 : Value} {K : List ByteArray} (h : XQ w0 wx Q v5 K v6) (hr : r = (0, Q.map Prod.fst, K.map bytesOf)) : PrsE r (.returned (.tuple #[v5, v6, .int .i64 0])) wx := by
  subst hr
  obtain ⟨ao, pc, e5, h1, h2, h3⟩ := h.pages
  obtain ⟨bo, kc, e6, g1, g2, g3⟩ := h.strs
  refine ⟨ao, pc, bo, kc, ?_, h1, ?_, by rw [List.length_map]; exact h2, by rw [List.length_map]; exact g2, h3, g3⟩
  · rw [List.length_map, List.length_map, e5, e6]
  · rw [text_bytes]; exact g1
theorem and_small (k : Int) (n : Nat) (hk : k = 1 ∨ k = 2 ∨ k = 4) (h : n ≤ 7) : bits .and .i64 (n : Int) k = ((n / k.toNat % 2 * k.toNat : Nat) : Int) := by
  rcases hk with rfl | rfl | rfl <;>
  · have : n = 0 ∨ n = 1 ∨ n = 2 ∨ n = 3 ∨ n = 4 ∨ n = 5 ∨ n = 6 ∨ n = 7 := by omega
    rcases this with rfl | rfl | rfl | rfl | rfl | rfl | rfl | rfl <;> decide
/-- The last page's mark, page by page. -/
theorem lasB_iff : ∀ (P : List Pg), lasB P = true ↔ ∀ i p, P[i]? = some p → (p.fl / 4 % 2 = 1 ↔ i + 1 = P.length)
  | [] => ⟨fun _ i p h => by simp at h, fun _ => rfl⟩
  | [p] => by
    rw [lasB, decide_eq_true_iff]
    refine ⟨fun h i q hq => ?_, fun h => (h 0 p rfl).2 rfl⟩
    cases i with
    | zero => simp at hq; subst hq; simp [h]
    | succ i => simp at hq
  | p :: q :: t => by
    rw [lasB, Bool.and_eq_true, decide_eq_true_iff, lasB_iff (q :: t)]
    refine ⟨fun h i x hx => ?_, fun h => ⟨fun e => ?_, fun i x hx => ?_⟩⟩
    · cases i with
      | zero =>
        simp at hx
        subst hx
        simp [h.1]
      | succ i =>
        have := h.2 i x (by simpa using hx)
        rw [this]
        simp
    · have := (h 0 p rfl).1 e
      simp at this
    · have := h (i + 1) x (by simpa using hx)
      rw [this]
      simp

end Go.Proofs.YtjkamannjgcmiaaDoor
