/- Own text: the walk of the document's Chunks. -/
import Derived.Test.YtaepgjheknkojaaR6chunk
import Derived.Test.YtaepgjheknkojaaG6x
namespace Go.Proofs.Ytaepgjheknkojaa
open Go.RowKit
set_option linter.unusedSimpArgs false
set_option linter.unusedVariables false

def ccells (l : List Chk) : List Value := l.flatMap fun c => [.string c.id, .string c.body, .int .i64 c.pad]
theorem ccells_length (l : List Chk) : (ccells l).length = l.length * 3 := by
  induction l with
  | nil => rfl
  | cons c t ih =>
    have e : ccells (c :: t) = [.string c.id, .string c.body, .int .i64 c.pad] ++ ccells t := by simp [ccells]
    rw [e, List.length_append, ih]
    simp
    omega
theorem ccells_snoc (l : List Chk) (c : Chk) : ccells (l ++ [c]) = ccells l ++ [.string c.id, .string c.body, .int .i64 c.pad] := by simp [ccells]
theorem ccells_get : ∀ (l : List Chk) (i : Nat) (c : Chk), l[i]? = some c → (ccells l)[i * 3]? = some (.string c.id) ∧ (ccells l)[i * 3 + 1]? = some (.string c.body) ∧ (ccells l)[i * 3 + 2]? = some (.int .i64 c.pad)
  | [], i, c, h => by simp at h
  | x :: t, 0, c, h => by
    simp at h
    subst h
    exact ⟨rfl, rfl, rfl⟩
  | x :: t, i + 1, c, h => by
    have ih := ccells_get t i c (by simpa using h)
    have e : ∀ r, (ccells (x :: t))[(i + 1) * 3 + r]? = (ccells t)[i * 3 + r]? := fun r => by
      have e : ccells (x :: t) = [.string x.id, .string x.body, .int .i64 x.pad] ++ ccells t := by simp [ccells]
      rw [e, List.getElem?_append_right (by simp; omega)]
      congr 1
      simp
      omega
    refine ⟨?_, ?_, ?_⟩
    · have := e 0
      rw [Nat.add_zero, Nat.add_zero] at this
      rw [this]
      exact ih.1
    · rw [e 1]; exact ih.2.1
    · rw [e 2]; exact ih.2.2
/-- Chunks in memory. -/
structure ChksAt (w : World) (ao : Option Addr) (l : List Chk) : Prop where
  lies : 0 < l.length → ∃ b off, ao = some ⟨b, off, none⟩ ∧ ∀ i c, l[i]? = some c → w.cell? ⟨b, off + i * 3, none⟩ = some (.string c.id) ∧ w.cell? ⟨b, off + i * 3 + 1, none⟩ = some (.string c.body) ∧ w.cell? ⟨b, off + i * 3 + 2, none⟩ = some (.int .i64 c.pad)
theorem ChksAt.nil (w : World) (ao : Option Addr) : ChksAt w ao [] := ⟨fun h => absurd h (by simp)⟩
theorem ChksAt.below {w w' : World} {ao : Option Addr} {l : List Chk} (h : ChksAt w ao l) (hB : Below w.heap.size w w') : ChksAt w' ao l := by
  refine ⟨fun h0 => ?_⟩
  obtain ⟨b, off, e, hc⟩ := h.lies h0
  refine ⟨b, off, e, fun i c hi => ?_⟩
  obtain ⟨h0, h1, h2⟩ := hc i c hi
  have k : ∀ o, w'.cell? ⟨b, o, .none⟩ = w.cell? ⟨b, o, .none⟩ := fun o => World.cell?_of_block (w := w) (hB.block b (lt_cell h0))
  exact ⟨by rw [k]; exact h0, by rw [k]; exact h1, by rw [k]; exact h2⟩
theorem ChksAt.own {w : World} {B : Nat} {v : Value} {l : List Chk} (h : w.ownsRow B 66 3 v l.length (ccells l)) : ∃ ao cap, v = .slice ao l.length cap ∧ ChksAt w ao l := by
  rcases h.2 with ⟨e, e0⟩ | ⟨g, cap, cur, e, _⟩
  · exact ⟨.none, 0, by rw [e, e0], ⟨fun q => by omega⟩⟩
  · refine ⟨some ⟨g, 0, .none⟩, cap, e, ⟨fun _ => ⟨g, 0, rfl, fun i c hi => ?_⟩⟩⟩
    subst e
    have hl := (List.getElem?_eq_some_iff.1 hi).1
    obtain ⟨c0, c1, c2⟩ := ccells_get l i c hi
    rw [Nat.zero_add]
    exact ⟨by rw [h.cellAt (i * 3) (by omega), c0], by rw [h.cellAt (i * 3 + 1) (by omega), c1], by rw [h.cellAt (i * 3 + 2) (by omega), c2]⟩
theorem infoK3 : (Try.prog.info? 66).map (fun i => (i.zero, i.size, i.bytes)) = some (some (.agg zeroK), 3, 40) := by kernel_rfl
theorem info_parts5 {P : Program} {e : TypeId} {z : Value} {s b : Nat} (h : (P.info? e).map (fun i => (i.zero, i.size, i.bytes)) = some (some z, s, b)) : ∃ i, P.info? e = some i ∧ i.zero = some z ∧ i.size = s ∧ i.bytes = b := by
  cases hi : P.info? e with
  | none => rw [hi] at h; cases h
  | some i =>
    rw [hi] at h
    simp only [Option.map_some, Option.some.injEq, Prod.mk.injEq] at h
    exact ⟨i, rfl, h.1, h.2.1, h.2.2⟩
/-- Append to an owned row, of elements of any size. -/
theorem wpList_append_row {P : Program} (w : World) {ops : Array Oper} {rest : List Oper} {o : Oper} {a : Act} {Q : Exit → Act → World → Prop} (hgd : o.guard = none) (s x : Operand) (t : TypeId)
    (ho : o.op = .call { callee := .builtin .append, args := #[s, x], argTypes := #[t, t] })
    (base : Nat) (e : TypeId) (i : TypeInfo) (z : Value) (size bytes : Nat) (ht : P.underlying t = some (.slice e)) (hi : P.info? e = some i) (hz : i.zero = some z) (hsize : i.size = size) (hby : i.bytes = bytes) (hzs : z.cells.size = size) (hsz : 0 < size)
    (v : Value) (n : Nat) (xs : List Value) (hs : a.eval s = v) (hown : w.ownsRow base e size v n xs)
    (ad : Addr) (m c : Nat) (news : List Value) (hx : a.eval x = .slice (some ad) m c) (hl : news.length = m * size) (hnews : ∀ j u, news[j]? = some u → w.cell? (ad.add j) = some u) (h1 : ∀ u ∈ news, u.oneCell' = true)
    (h63 : n + m ≤ maxLen) (hbytes : (n + m) * bytes ≤ 140737488355328) (hbase : base ≤ w.heap.size)
    (h : ∀ v' w', Hid (w'.ownsRow base e size v' (n + m) (xs ++ news)) → Hid (w.grownBy w' v.ownBlock) → wpList P ops Q rest (a.put o.dst v') w') : wpList P ops Q (o :: rest) a w := by
  refine wpList_plain hgd fun K hK => ?_
  obtain ⟨v', w', hrun, r1, r2, _, _⟩ := run_append_own_at (P := P) w base t o.type e i z size bytes ht hi hz hsize hby hzs hsz v n xs hown ad m c news hl hnews h1 h63 hbytes hbase
  unfold Oper.wp
  simp [execOp, ho, resolve, invoke, builtin, hs, hx, hrun, Result.andThen]
  exact hK _ _ (h v' w' r1 r2)
theorem three_cells {w : World} {v0 v1 v2 : Value} {e : TypeId} (j : Nat) (u : Value) (hj : [v0, v1, v2][j]? = some u) : (w.alloc (.cells #[v0, v1, v2] e)).cell? ((⟨w.heap.size, 0, none⟩ : Addr).add j) = some u := by
  rw [Addr.add_mid, Nat.zero_add, cell_of_row _ _ _ _ _ _ (heap_alloc_new w _)]
  simpa using hj
/-- A list of chunks that grows. -/
structure Gc (w0 : World) (v : Value) (l : List Chk) (w : World) : Prop where
  own : w.ownsRow w0.heap.size 66 3 v l.length (ccells l)
  below : Below w0.heap.size w0 w
theorem Gc.next {w0 w w1 : World} {v : Value} {l : List Chk} (h : Gc w0 v l w) (hB : Below w.heap.size w w1) : Gc w0 v l w1 := ⟨owns_below h.own hB, h.below.trans (hB.mono h.below.size)⟩
theorem Gc.push {w0 w w1 : World} {v v' : Value} {l : List Chk} {c : Chk} (h : Gc w0 v l w) (ho : w1.ownsRow w0.heap.size 66 3 v' (l.length + 1) (ccells l ++ [.string c.id, .string c.body, .int .i64 c.pad])) (hg : w.grownBy w1 v.ownBlock) : Gc w0 v' (l ++ [c]) w1 :=
  ⟨by rw [ccells_snoc, List.length_append]; exact ho, grown_to hg h.below h.below.size (fun k e => (h.own.lt k e).1)⟩
theorem Gc.shape {w0 w : World} {v : Value} {l : List Chk} (h : Gc w0 v l w) : ∃ va vc, v = .slice va l.length vc := by
  rcases h.own.2 with ⟨e, e0⟩ | ⟨g, cap, cur, e, _⟩
  · exact ⟨_, _, by rw [e, e0]⟩
  · exact ⟨_, _, e⟩

end Go.Proofs.Ytaepgjheknkojaa
