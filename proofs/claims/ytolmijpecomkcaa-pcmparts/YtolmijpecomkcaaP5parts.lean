/- Own text: PCMs copied one by one, and written over: what the memory keeps. -/
import Derived.Test.YtolmijpecomkcaaP5join5
import Derived.Test.YtolmijpecomkcaaQ5join3
import Derived.Test.YtolmijpecomkcaaQ5slice2
import Derived.Test.YtolmijpecomkcaaP5slice
namespace Go.Proofs.Ytolmijpecomkcaa
open Go.RowKit
set_option linter.unusedSimpArgs false
set_option linter.unusedVariables false

/-- Rows that lie from block B on. -/
structure High (B : Nat) (w : World) (ao : Option Addr) (xs : List (List Int)) : Prop where
  own : ∀ b off, ao = some ⟨b, off, none⟩ → 0 < xs.length → B ≤ b
  rows : ∀ b off, ao = some ⟨b, off, none⟩ → ∀ i, i < xs.length → ∀ a n c, w.cell? ⟨b, off + i, none⟩ = some (.slice a n c) → ∀ ba oa, a = some ⟨ba, oa, none⟩ → B ≤ ba
theorem Fresh.high {B : Nat} {w : World} {ao : Option Addr} {xs : List (List Int)} (h : Fresh B w ao xs) : High B w ao xs := ⟨h.own, fun b off e i hi a n c hc ba oa ha => (h.rows b off e i hi a n c hc ba oa ha).1⟩
theorem High.mono {B B' : Nat} {w : World} {ao : Option Addr} {xs : List (List Int)} (h : High B w ao xs) (hB : B' ≤ B) : High B' w ao xs :=
  ⟨fun b off e h0 => Nat.le_trans hB (h.own b off e h0), fun b off e i hi a n c hc ba oa ha => Nat.le_trans hB (h.rows b off e i hi a n c hc ba oa ha)⟩
theorem RowsAt.keepHigh {B : Nat} {w w' : World} {ao : Option Addr} {xs : List (List Int)} (h : RowsAt w ao xs) (hf : High B w ao xs) (hb : ∀ k, B ≤ k → k < w.heap.size → w'.heap[k]? = w.heap[k]?) : RowsAt w' ao xs ∧ High B w' ao xs := by
  have hcell : ∀ b off, ao = some ⟨b, off, none⟩ → ∀ i, i < xs.length → w'.cell? ⟨b, off + i, none⟩ = w.cell? ⟨b, off + i, none⟩ := fun b off e i hi => by
    have h0 : 0 < xs.length := by omega
    obtain ⟨b', off', e', hc⟩ := h.lies h0
    have e2 := e.symm.trans e'
    cases e2
    obtain ⟨a, c, h1, _⟩ := hc i hi
    exact World.cell?_of_block (w := w) (hb b (hf.own b off e h0) (lt_cell h1))
  refine ⟨⟨h.len, fun h0 => ?_⟩, ⟨hf.own, fun b off e i hi a n c hc ba oa ha => hf.rows b off e i hi a n c (by rw [← hcell b off e i hi]; exact hc) ba oa ha⟩⟩
  obtain ⟨b, off, e, hc⟩ := h.lies h0
  refine ⟨b, off, e, fun i hi => ?_⟩
  obtain ⟨a, c, h1, h5, h6, h2⟩ := hc i hi
  refine ⟨a, c, by rw [hcell b off e i hi]; exact h1, h5, h6, ⟨h2.len, h2.num, fun hl => ?_⟩⟩
  obtain ⟨ba, oa, e2, hcc⟩ := h2.lies hl
  refine ⟨ba, oa, e2, fun j hj => ?_⟩
  have h3 := hcc j hj
  rw [← h3]
  exact World.cell?_of_block (w := w) (hb ba (hf.rows b off e i hi a _ c h1 ba oa e2) (lt_cell h3))

/-- The cells of PCMs in a row. -/
def gcells : List Pcm → List (Option Addr × Nat) → List Value
  | p :: ps, q :: qs => [.int .i64 p.rate, .int .i64 p.ch, .int .i64 p.wd, .slice q.1 p.pl.length q.2] ++ gcells ps qs
  | _, _ => []
theorem gcells_snoc : ∀ (ps : List Pcm) (qs : List (Option Addr × Nat)) (p : Pcm) (q : Option Addr × Nat), qs.length = ps.length → gcells (ps ++ [p]) (qs ++ [q]) = gcells ps qs ++ [.int .i64 p.rate, .int .i64 p.ch, .int .i64 p.wd, .slice q.1 p.pl.length q.2]
  | [], [], p, q, _ => rfl
  | [], _ :: _, p, q, h => by simp at h
  | _ :: _, [], p, q, h => by simp at h
  | x :: ps, y :: qs, p, q, h => by
    have ih := gcells_snoc ps qs p q (by simpa using h)
    simp only [List.cons_append, gcells, ih]
    rfl
theorem gcells_get : ∀ (ps : List Pcm) (qs : List (Option Addr × Nat)) (i : Nat) (p : Pcm) (q : Option Addr × Nat), ps[i]? = some p → qs[i]? = some q →
    (gcells ps qs)[i * 4]? = some (.int .i64 p.rate) ∧ (gcells ps qs)[i * 4 + 1]? = some (.int .i64 p.ch) ∧ (gcells ps qs)[i * 4 + 2]? = some (.int .i64 p.wd) ∧ (gcells ps qs)[i * 4 + 3]? = some (.slice q.1 p.pl.length q.2)
  | [], _, i, p, q, h, _ => by simp at h
  | _ :: _, [], i, p, q, _, h => by simp at h
  | x :: ps, y :: qs, 0, p, q, h1, h2 => by
    simp at h1 h2
    subst h1 h2
    exact ⟨rfl, rfl, rfl, rfl⟩
  | x :: ps, y :: qs, i + 1, p, q, h1, h2 => by
    have ih := gcells_get ps qs i p q (by simpa using h1) (by simpa using h2)
    have e : ∀ r, (gcells (x :: ps) (y :: qs))[(i + 1) * 4 + r]? = (gcells ps qs)[i * 4 + r]? := fun r => by
      show ([.int .i64 x.rate, .int .i64 x.ch, .int .i64 x.wd, .slice y.1 x.pl.length y.2] ++ gcells ps qs)[(i + 1) * 4 + r]? = _
      rw [List.getElem?_append_right (by simp; omega)]
      congr 1
      simp
      omega
    refine ⟨?_, ?_, ?_, ?_⟩
    · have := e 0
      rw [Nat.add_zero, Nat.add_zero] at this
      rw [this]
      exact ih.1
    · rw [e 1]; exact ih.2.1
    · rw [e 2]; exact ih.2.2.1
    · rw [e 3]; exact ih.2.2.2

/-- The copies that were made so far. -/
structure Gv (w0 : World) (G n : Nat) (ps : List Pcm) (qs : List (Option Addr × Nat)) (w : World) : Prop where
  own : w.ownsRow w0.heap.size 24 4 (.slice (some ⟨G, 0, none⟩) ps.length n) ps.length (gcells ps qs)
  qlen : qs.length = ps.length
  rows : ∀ (j : Nat) (p : Pcm) (q : Option Addr × Nat), ps[j]? = some p → qs[j]? = some q → RowsAt w q.1 p.pl ∧ High (G + 1) w q.1 p.pl
  below : Below w0.heap.size w0 w
theorem Gv.lo {w0 w : World} {G n : Nat} {ps : List Pcm} {qs : List (Option Addr × Nat)} (h : Gv w0 G n ps qs w) : w0.heap.size ≤ G ∧ G < w.heap.size := h.own.lt G rfl
theorem Gv.next {w0 w w' : World} {G n : Nat} {ps : List Pcm} {qs : List (Option Addr × Nat)} (h : Gv w0 G n ps qs w) (hB : Below w.heap.size w w') : Gv w0 G n ps qs w' :=
  ⟨owns_below h.own hB, h.qlen, fun j p q hp hq => (h.rows j p q hp hq).1.keepHigh (h.rows j p q hp hq).2 (fun k _ hk => hB.block k hk), h.below.trans (hB.mono h.below.size)⟩
theorem Gv.push {w0 w w' : World} {G n : Nat} {ps : List Pcm} {qs : List (Option Addr × Nat)} {p : Pcm} {ao : Option Addr} {cap : Nat} (h : Gv w0 G n ps qs w) (hr : RowsAt w ao p.pl) (hh : High (G + 1) w ao p.pl)
    (ho : w'.ownsRow w0.heap.size 24 4 (.slice (some ⟨G, 0, none⟩) (ps.length + 1) n) (ps.length + 1) (gcells ps qs ++ [.int .i64 p.rate, .int .i64 p.ch, .int .i64 p.wd, .slice ao p.pl.length cap])) (hg : w.grownBy w' (some G)) :
    Gv w0 G n (ps ++ [p]) (qs ++ [(ao, cap)]) w' := by
  have hk : ∀ k, G + 1 ≤ k → k < w.heap.size → w'.heap[k]? = w.heap[k]? := fun k h1 h2 => hg.block k h2 (fun e => by have := Option.some.inj e; omega)
  have hlo := h.lo
  refine ⟨?_, by simp [h.qlen], fun j q x hq hx => ?_, grown_to hg h.below h.below.size (fun k e => by have := Option.some.inj e; omega)⟩
  · rw [gcells_snoc ps qs p (ao, cap) h.qlen, List.length_append]
    exact ho
  · by_cases hj : j < ps.length
    · rw [List.getElem?_append_left hj] at hq
      rw [List.getElem?_append_left (by rw [h.qlen]; exact hj)] at hx
      exact (h.rows j q x hq hx).1.keepHigh (h.rows j q x hq hx).2 hk
    · have hl := (List.getElem?_eq_some_iff.1 hq).1
      simp at hl
      have hj : j = ps.length := by omega
      subst hj
      rw [List.getElem?_append_right (Nat.le_refl _), Nat.sub_self] at hq
      rw [List.getElem?_append_right (by rw [h.qlen]; exact Nat.le_refl _), h.qlen, Nat.sub_self] at hx
      simp at hq hx
      subst hq hx
      exact hr.keepHigh hh hk
theorem Gv.pcms {w0 w : World} {G n : Nat} {ps : List Pcm} {qs : List (Option Addr × Nat)} (h : Gv w0 G n ps qs w) (hl : ps.length ≤ 2932031007403) (hf : ∀ (i : Nat) (p : Pcm), ps[i]? = some p → Fair p) : PcmsAt w (some ⟨G, 0, none⟩) ps := by
  refine ⟨hl, fun h0 => ⟨G, 0, rfl, fun i p hi => ?_⟩⟩
  have hil := (List.getElem?_eq_some_iff.1 hi).1
  obtain ⟨q, hq⟩ : ∃ q, qs[i]? = some q := ⟨_, List.getElem?_eq_getElem (by rw [h.qlen]; exact hil)⟩
  obtain ⟨c0, c1, c2, c3⟩ := gcells_get ps qs i p q hi hq
  refine ⟨q.1, q.2, ?_, ?_, ?_, ?_, (h.rows i p q hi hq).1, hf i p hi⟩
  · rw [Nat.zero_add, h.own.cellAt (i * 4) (by omega), c0]
  · rw [Nat.zero_add, h.own.cellAt (i * 4 + 1) (by omega), c1]
  · rw [Nat.zero_add, h.own.cellAt (i * 4 + 2) (by omega), c2]
  · rw [Nat.zero_add, h.own.cellAt (i * 4 + 3) (by omega), c3]
theorem PcmsAt.below {w w' : World} {ao : Option Addr} {ps : List Pcm} (h : PcmsAt w ao ps) (hB : Below w.heap.size w w') : PcmsAt w' ao ps := by
  refine ⟨h.len, fun h0 => ?_⟩
  obtain ⟨b, off, e, hc⟩ := h.lies h0
  refine ⟨b, off, e, fun i p hi => ?_⟩
  obtain ⟨a, c, h0, h1, h2, h3, h4, h5⟩ := hc i p hi
  have hb := lt_cell h0
  have k : ∀ o, w'.cell? ⟨b, o, none⟩ = w.cell? ⟨b, o, none⟩ := fun o => World.cell?_of_block (w := w) (hB.block b hb)
  exact ⟨a, c, by rw [k]; exact h0, by rw [k]; exact h1, by rw [k]; exact h2, by rw [k]; exact h3, h4.below hB, h5⟩
theorem PcmsAt.fair {w : World} {ao : Option Addr} {ps : List Pcm} (h : PcmsAt w ao ps) (i : Nat) (p : Pcm) (hi : ps[i]? = some p) : Fair p := by
  obtain ⟨_, _, _, hc⟩ := h.lies (by have := (List.getElem?_eq_some_iff.1 hi).1; omega)
  obtain ⟨_, _, _, _, _, _, _, hf⟩ := hc i p hi
  exact hf

/-- A list of PCMs of no length and of room for n is made. -/
theorem infoP3 : (Try.prog.info? 24).map (fun i => (i.zero, i.size, i.bytes)) = some (some (.agg zeroP), 4, 48) := by kernel_rfl
theorem info_parts4 {P : Program} {e : TypeId} {z : Value} {s b : Nat} (h : (P.info? e).map (fun i => (i.zero, i.size, i.bytes)) = some (some z, s, b)) : ∃ i, P.info? e = some i ∧ i.zero = some z ∧ i.size = s ∧ i.bytes = b := by
  cases hi : P.info? e with
  | none => rw [hi] at h; cases h
  | some i =>
    rw [hi] at h
    simp only [Option.map_some, Option.some.injEq, Prod.mk.injEq] at h
    exact ⟨i, rfl, h.1, h.2.1, h.2.2⟩
theorem make_pcms (n : Nat) (h : n ≤ 2932031007403) (w : World) : (Instr.makeSlice 44 (.int .i64 0) (.int .i64 (n : Int))).run Try.prog w = .ok (.slice (some ⟨w.heap.size, 0, none⟩) 0 n) (w.alloc (.cells (madeCells zeroP (n * 4)) 24)) := by
  obtain ⟨i, h0, h1, h2, h3⟩ := info_parts4 infoP3
  have := run_make (P := Try.prog) w 44 24 i (.agg zeroP) Try.underlying44 h0 h1 .i64 .i64 0 (n : Int) (by omega) (by omega) (by rw [h3]; omega) (by omega)
  rw [h2, show (Value.agg zeroP).cells = zeroP from rfl] at this
  simpa using this
theorem Gv.new (w : World) (n : Nat) (h : n ≤ 2932031007403) : Gv w w.heap.size n [] [] (w.alloc (.cells (madeCells zeroP (n * 4)) 24)) :=
  ⟨World.ownsRow_made w _ n (Nat.le_refl _) (by unfold maxLen; omega) (size_madeCells _ _), rfl, fun j p q h => by simp at h, (Below.refl _ _).alloc (Nat.le_refl _) _⟩

/-- Append of one PCM where there is room. -/
theorem wpList_append_fits {P : Program} (w : World) {ops : Array Oper} {rest : List Oper} {o : Oper} {a : Act} {Q : Exit → Act → World → Prop} (hgd : o.guard = none) (s x : Operand) (t : TypeId)
    (ho : o.op = .call { callee := .builtin .append, args := #[s, x], argTypes := #[t, t] })
    (base : Nat) (e : TypeId) (i : TypeInfo) (size : Nat) (ht : P.underlying t = some (.slice e)) (hi : P.info? e = some i) (hsize : i.size = size)
    (g n cap : Nat) (xs : List Value) (hs : a.eval s = .slice (some ⟨g, 0, none⟩) n cap) (hown : w.ownsRow base e size (.slice (some ⟨g, 0, none⟩) n cap) n xs)
    (ad : Addr) (m c : Nat) (news : List Value) (hx : a.eval x = .slice (some ad) m c) (hl : news.length = m * size) (hnews : ∀ j u, news[j]? = some u → w.cell? (ad.add j) = some u) (h1 : ∀ u ∈ news, u.oneCell' = true)
    (hroom : n + m ≤ cap)
    (h : ∀ w', Hid (w'.ownsRow base e size (.slice (some ⟨g, 0, none⟩) (n + m) cap) (n + m) (xs ++ news)) → Hid (w.grownBy w' (some g)) → wpList P ops Q rest (a.put o.dst (.slice (some ⟨g, 0, none⟩) (n + m) cap)) w') : wpList P ops Q (o :: rest) a w := by
  refine wpList_plain hgd fun K hK => ?_
  obtain ⟨w', hrun, r1, r2⟩ := run_append_fits (P := P) w base t o.type e i size ht hi hsize g n cap xs hown ad m c news hl hnews h1 hroom
  unfold Oper.wp
  simp [execOp, ho, resolve, invoke, builtin, hs, hx, hrun, Result.andThen]
  exact hK _ _ (h w' r1 r2)
theorem four_cells {w : World} {v0 v1 v2 v3 : Value} {e : TypeId} (j : Nat) (u : Value) (hj : [v0, v1, v2, v3][j]? = some u) : (w.alloc (.cells #[v0, v1, v2, v3] e)).cell? ((⟨w.heap.size, 0, none⟩ : Addr).add j) = some u := by
  rw [Addr.add_mid, Nat.zero_add, cell_of_row _ _ _ _ _ _ (heap_alloc_new w _)]
  simpa using hj

/-- On the way through the copy of one PCM: its box at w1's end. -/
structure Cw (w1 : World) (p : Pcm) (v : Value) (vs : List Value) (xs : List (List Int)) (w : World) : Prop where
  q : w.heap[w1.heap.size]? = some (.cells #[.int .i64 p.rate, .int .i64 p.ch, .int .i64 p.wd, v] 24 (0, 0))
  mat : OwnMat 45 (w1.heap.size + 1) w v vs xs
  below : Below w1.heap.size w1 w
section
variable {w1 w w2 w3 : World} {p : Pcm} {v v' u : Value} {vs : List Value} {xs : List (List Int)} {l : List Int}
theorem Cw.size (h : Cw w1 p v vs xs w) : w1.heap.size + 1 ≤ w.heap.size := lt_of_block h.q
theorem Cw.next (h : Cw w1 p v vs xs w) (hB : Below w.heap.size w w2) : Cw w1 p v vs xs w2 :=
  ⟨by rw [hB.block _ (lt_of_block h.q)]; exact h.q, h.mat.next hB, h.below.trans (hB.mono h.below.size)⟩
theorem Cw.drew (h : Cw w1 p v vs xs w) : Cw w1 p v vs xs w.drew := h.next ⟨rfl, rfl, rfl, Nat.le_refl _, fun _ _ => rfl⟩
theorem Cw.q3 (h : Cw w1 p v vs xs w) : w.cell? ⟨w1.heap.size, 3, none⟩ = some v := by rw [cell_of_row _ _ _ _ _ _ h.q]; rfl
theorem Cw.f3 (h : Cw w1 p v vs xs w) : w.frozen? ⟨w1.heap.size, 3, none⟩ = false := by
  have := h.q
  simp [World.frozen?, this]
theorem Cw.new (w : World) (p : Pcm) : Cw w p noS [] [] (w.alloc (.cells #[.int .i64 p.rate, .int .i64 p.ch, .int .i64 p.wd, noS] 24)) := ⟨heap_alloc_new _ _, OwnMat.empty _ _ _, (Below.refl _ _).alloc (Nat.le_refl _) _⟩
theorem Cw.grown (h : Cw w1 p v vs xs w2) (hg : w2.grownBy w3 v.ownBlock) : w3.heap[w1.heap.size]? = some (.cells #[.int .i64 p.rate, .int .i64 p.ch, .int .i64 p.wd, v] 24 (0, 0)) ∧ Below w1.heap.size w1 w3 := by
  have hne : ∀ k, k < w1.heap.size + 1 → some k ≠ v.ownBlock := fun k hk e => by
    have := (h.mat.outer.lt k e.symm).1
    omega
  exact ⟨by rw [hg.block _ (lt_of_block h.q) (hne _ (by omega))]; exact h.q, grown_to hg h.below (by have := h.size; omega) (fun k hk => by have := (h.mat.outer.lt k hk).1; omega)⟩
theorem Cw.push (h : Cw w1 p v vs xs w2) (hu : w2.ownsRow (w1.heap.size + 1) 3 1 u l.length (intsC l)) (hn : ∀ k, u.ownBlock = some k → ∀ i, i < xs.length → (vs.getD i noS).ownBlock ≠ some k) (hn2 : ∀ k, u.ownBlock = some k → v.ownBlock ≠ some k)
    (ho : w3.ownsRow (w1.heap.size + 1) 45 1 v' (xs.length + 1) (vs ++ [u])) (hg : w2.grownBy w3 v.ownBlock) (hb : v'.ownBlock = v.ownBlock ∨ v'.ownBlock = some w2.heap.size) :
    Cw w1 p v' (vs ++ [u]) (xs ++ [l]) (w3.setCell ⟨w1.heap.size, 3, none⟩ v') := by
  obtain ⟨g3, g5⟩ := h.grown hg
  have hm := h.mat.push (u := u) (l := l) hu (fun i hi => ?_) ?_ ho hg hb
  · have hblk : ∀ {x : Value} {e : TypeId} {n : Nat} {ys : List Value}, w3.ownsRow (w1.heap.size + 1) e 1 x n ys → x.ownBlock ≠ some w1.heap.size := fun {x} {e} {n} {ys} hx q => by
      have := (hx.lt _ q).1
      omega
    refine ⟨?_, ⟨ownsRow_setCell_other hm.outer (hblk hm.outer) _, fun i hi => ownsRow_setCell_other (hm.inner i hi) (hblk (hm.inner i hi)) _, hm.apart, hm.aside⟩, g5.setCell (by simp) _⟩
    exact block_set w3 w1.heap.size 3 _ _ v' g3
  · cases hub : u.ownBlock with
    | none =>
      cases hvb : (vs.getD i noS).ownBlock with
      | none => exact .inl rfl
      | some k => exact .inr (by simp)
    | some k => exact .inr (hn k hub i hi)
  · cases hub : u.ownBlock with
    | none => exact .inl rfl
    | some k => exact .inr (fun e => hn2 k hub e.symm)
end

/-- While 77 is written into a PCM's planes: its box at Q, its memory from block B on. -/
structure S7 (B : Nat) (w0 : World) (Q : Nat) (ao : Option Addr) (cap : Nat) (xs : List (List Int)) (w : World) : Prop where
  below : Below B w0 w
  box : w.cell? ⟨Q, 3, none⟩ = some (.slice ao xs.length cap)
  rows : ∀ i, i < xs.length → ∃ b off a c, ao = some ⟨b, off, none⟩ ∧ w.cell? ⟨b, off + i, none⟩ = some (.slice a (xs.getD i []).length c) ∧
    (0 < (xs.getD i []).length → ∃ ba oa, a = some ⟨ba, oa, none⟩ ∧ B ≤ ba ∧ (∀ j, w.frozen? ⟨ba, j, none⟩ = false) ∧ ∀ j, j < (xs.getD i []).length → ∃ n, w.cell? ⟨ba, oa + j, none⟩ = some (.int .i64 n))
theorem S7.new {B : Nat} {w0 w : World} {Q : Nat} {ao : Option Addr} {cap : Nat} {xs : List (List Int)} (hb : Below B w0 w) (hq : w.cell? ⟨Q, 3, none⟩ = some (.slice ao xs.length cap)) (hr : RowsAt w ao xs) (hf : Fresh B w ao xs) : S7 B w0 Q ao cap xs w := by
  refine ⟨hb, hq, fun i hi => ?_⟩
  obtain ⟨b, off, e, hc⟩ := hr.lies (by omega)
  obtain ⟨a, c, h1, h5, h6, h2⟩ := hc i hi
  refine ⟨b, off, a, c, e, h1, fun hl => ?_⟩
  obtain ⟨ba, oa, e2, hcc⟩ := h2.lies hl
  obtain ⟨f1, f2⟩ := hf.rows b off e i hi a _ c h1 ba oa e2
  exact ⟨ba, oa, e2, f1, f2, fun j hj => ⟨_, hcc j hj⟩⟩
theorem S7.set {B : Nat} {w0 w : World} {Q : Nat} {ao : Option Addr} {cap : Nat} {xs : List (List Int)} (h : S7 B w0 Q ao cap xs w) (ba o : Nat) (n m : Int) (hB : B ≤ ba) (hc : w.cell? ⟨ba, o, none⟩ = some (.int .i64 n)) : S7 B w0 Q ao cap xs (w.setCell ⟨ba, o, none⟩ (.int .i64 m)) := by
  have hs : ∀ (ad : Addr) a n' c, w.cell? ad = some (.slice a n' c) → (w.setCell ⟨ba, o, none⟩ (.int .i64 m)).cell? ad = some (.slice a n' c) := fun ad a n' c h1 => by
    rw [World.cell?_setCell_other _ _ _ _ (fun e => by subst e; rw [hc] at h1; cases h1)]
    exact h1
  have hi : ∀ (ad : Addr), (∃ n', w.cell? ad = some (.int .i64 n')) → ∃ n', (w.setCell ⟨ba, o, none⟩ (.int .i64 m)).cell? ad = some (.int .i64 n') := fun ad h1 => by
    by_cases e : (⟨ba, o, none⟩ : Addr) = ad
    · subst e
      exact ⟨m, World.cell?_setCell_same _ _ _ hc⟩
    · obtain ⟨n', h1⟩ := h1
      exact ⟨n', by rw [World.cell?_setCell_other _ _ _ _ e]; exact h1⟩
  refine ⟨h.below.setCell hB _, hs _ _ _ _ h.box, fun i hi' => ?_⟩
  obtain ⟨b, off, a, c, e, h1, h2⟩ := h.rows i hi'
  refine ⟨b, off, a, c, e, hs _ _ _ _ h1, fun hl => ?_⟩
  obtain ⟨ba', oa, e2, h3, h4, h5⟩ := h2 hl
  exact ⟨ba', oa, e2, h3, fun j => by rw [World.frozen?_setCell]; exact h4 j, fun j hj => hi _ (h5 j hj)⟩

theorem S7.of {B : Nat} {w0 w w' : World} {Q : Nat} {ao : Option Addr} {cap : Nat} {xs : List (List Int)} (hb : Below B w0 w) (hB : B ≤ w.heap.size) (hr : RowsAt w ao xs) (hf : Fresh B w ao xs) (hB2 : Below w.heap.size w w') (hq : w'.cell? ⟨Q, 3, none⟩ = some (.slice ao xs.length cap)) : S7 B w0 Q ao cap xs w' := by
  refine ⟨hb.trans (hB2.mono hB), hq, fun i hi => ?_⟩
  obtain ⟨b, off, e, hc⟩ := hr.lies (by omega)
  obtain ⟨a, c, h1, h5, h6, h2⟩ := hc i hi
  have hbl := lt_cell h1
  refine ⟨b, off, a, c, e, (World.cell?_of_block (w := w) (hB2.block b hbl)).trans h1, fun hl => ?_⟩
  obtain ⟨ba, oa, e2, hcc⟩ := h2.lies hl
  obtain ⟨f1, f2⟩ := hf.rows b off e i hi a _ c h1 ba oa e2
  have hbb := lt_cell (hcc 0 hl)
  exact ⟨ba, oa, e2, f1, fun j => (World.frozen?_of_block (w := w) (hB2.block ba hbb)).trans (f2 j), fun j hj => ⟨_, (World.cell?_of_block (w := w) (hB2.block ba hbb)).trans (hcc j hj)⟩⟩

/-- Boxes of PCMs. -/
structure Bs (w0 : World) (qs : List (Nat × Pcm × Option Addr × Nat)) (w : World) : Prop where
  below : Below w0.heap.size w0 w
  bs : ∀ x ∈ qs, w.heap[x.1]? = some (.cells (pcmC x.2.1 x.2.2.1 x.2.2.2) 24 (0, 0)) ∧ RowsAt w x.2.2.1 x.2.1.pl
section
variable {w0 w w' : World} {q : Pcm} {ao : Option Addr} {cap Q : Nat} {qs : List (Nat × Pcm × Option Addr × Nat)}
theorem Bs.next (h : Bs w0 qs w) (hB : Below w.heap.size w w') : Bs w0 qs w' := ⟨h.below.trans (hB.mono h.below.size), fun x hx => ⟨by rw [hB.block _ (lt_of_block (h.bs x hx).1)]; exact (h.bs x hx).1, (h.bs x hx).2.below hB⟩⟩
theorem Bs.new (h : Bs w0 qs w) (hr : RowsAt w ao q.pl) : Bs w0 (qs ++ [(w.heap.size, q, ao, cap)]) (w.alloc (.cells (pcmC q ao cap) 24)) := by
  have hB : Below w.heap.size w (w.alloc (.cells (pcmC q ao cap) 24)) := (Below.refl _ _).alloc (Nat.le_refl _) _
  refine ⟨h.below.trans (hB.mono h.below.size), fun x hx => ?_⟩
  rcases List.mem_append.1 hx with hx | hx
  · exact (h.next hB).bs x hx
  · obtain rfl := List.mem_singleton.1 hx
    exact ⟨heap_alloc_new _ _, hr.below hB⟩
theorem Bs.cells (h : Bs w0 qs w) (hx : (Q, q, ao, cap) ∈ qs) : w.cell? ⟨Q, 0, none⟩ = some (.int .i64 q.rate) ∧ w.cell? ⟨Q, 1, none⟩ = some (.int .i64 q.ch) ∧ w.cell? ⟨Q, 2, none⟩ = some (.int .i64 q.wd) ∧ w.cell? ⟨Q, 3, none⟩ = some (.slice ao q.pl.length cap) :=
  have hh := (h.bs _ hx).1
  ⟨by rw [cell_of_row _ _ _ _ _ _ hh]; rfl, by rw [cell_of_row _ _ _ _ _ _ hh]; rfl, by rw [cell_of_row _ _ _ _ _ _ hh]; rfl, by rw [cell_of_row _ _ _ _ _ _ hh]; rfl⟩
end

end Go.Proofs.Ytolmijpecomkcaa
