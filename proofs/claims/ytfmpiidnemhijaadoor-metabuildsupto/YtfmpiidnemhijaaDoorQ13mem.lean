/- Own text: rows of blocks in memory; the walk of block. -/
import Derived.Test.YtfmpiidnemhijaaDoorQ13row
import Derived.ArgAppend
import Derived.Maps.AppendAt
import Derived.Laws.OwnMore
import Derived.OneCell
namespace Go.Proofs.YtfmpiidnemhijaaDoor
open Go.RowKit
set_option linter.unusedSimpArgs false
set_option linter.unusedVariables false

abbrev noS : Value := .slice none 0 0
theorem lt_cell {w : World} {a : Addr} {v : Value} (h : w.cell? a = some v) : a.block < w.heap.size := World.block_lt_of_cell? w a h
theorem grown_below {w w' : World} (h : Below w.heap.size w w') (row : Option Nat) : w.grownBy w' row := ⟨h.os, h.tape, h.output, h.size, fun k hk _ => h.block k hk⟩
theorem owns_below {w w' : World} {base : Nat} {e : TypeId} {size : Nat} {v : Value} {n : Nat} {xs : List Value} (h : w.ownsRow base e size v n xs) (hB : Below w.heap.size w w') : w'.ownsRow base e size v n xs :=
  h.kept (row := none) (grown_below hB none) (by cases hv : v.ownBlock <;> simp)
theorem grown_to {w w' : World} {row : Option Nat} {B : Nat} {w0 : World} (h : w.grownBy w' row) (hb : Below B w0 w) (hB : B ≤ w.heap.size) (hr : ∀ k, row = some k → B ≤ k) : Below B w0 w' :=
  hb.trans ⟨h.os, h.tape, h.output, h.size, fun k hk => h.block k (Nat.lt_of_lt_of_le hk hB) (fun e => by have := hr k e.symm; omega)⟩
def bcells (l : List Blk) : List Value := l.flatMap fun b => [.int .i64 b.ty, .string b.body]
theorem bcells_length (l : List Blk) : (bcells l).length = l.length * 2 := by
  induction l with
  | nil => rfl
  | cons c t ih =>
    have e : bcells (c :: t) = [.int .i64 c.ty, .string c.body] ++ bcells t := by simp [bcells]
    rw [e, List.length_append, ih]
    simp
    omega
theorem bcells_snoc (l : List Blk) (c : Blk) : bcells (l ++ [c]) = bcells l ++ [.int .i64 c.ty, .string c.body] := by simp [bcells]
theorem bcells_get : ∀ (l : List Blk) (i : Nat) (c : Blk), l[i]? = some c → (bcells l)[i * 2]? = some (.int .i64 c.ty) ∧ (bcells l)[i * 2 + 1]? = some (.string c.body)
  | [], i, c, h => by simp at h
  | x :: t, 0, c, h => by
    simp at h
    subst h
    exact ⟨rfl, rfl⟩
  | x :: t, i + 1, c, h => by
    have ih := bcells_get t i c (by simpa using h)
    have e : ∀ r, (bcells (x :: t))[(i + 1) * 2 + r]? = (bcells t)[i * 2 + r]? := fun r => by
      have e : bcells (x :: t) = [.int .i64 x.ty, .string x.body] ++ bcells t := by simp [bcells]
      rw [e, List.getElem?_append_right (by simp; omega)]
      congr 1
      simp
      omega
    refine ⟨?_, ?_⟩
    · have := e 0
      rw [Nat.add_zero, Nat.add_zero] at this
      rw [this]
      exact ih.1
    · rw [e 1]; exact ih.2
/-- Blocks in memory. -/
structure BlksAt (w : World) (ao : Option Addr) (l : List Blk) : Prop where
  lies : 0 < l.length → ∃ b off, ao = some ⟨b, off, none⟩ ∧ ∀ i c, l[i]? = some c → w.cell? ⟨b, off + i * 2, none⟩ = some (.int .i64 c.ty) ∧ w.cell? ⟨b, off + i * 2 + 1, none⟩ = some (.string c.body)
theorem BlksAt.nil (w : World) (ao : Option Addr) : BlksAt w ao [] := ⟨fun h => absurd h (by simp)⟩
theorem BlksAt.below {w w' : World} {ao : Option Addr} {l : List Blk} (h : BlksAt w ao l) (hB : Below w.heap.size w w') : BlksAt w' ao l := by
  refine ⟨fun h0 => ?_⟩
  obtain ⟨b, off, e, hc⟩ := h.lies h0
  refine ⟨b, off, e, fun i c hi => ?_⟩
  obtain ⟨h0, h1⟩ := hc i c hi
  have k : ∀ o, w'.cell? ⟨b, o, .none⟩ = w.cell? ⟨b, o, .none⟩ := fun o => World.cell?_of_block (w := w) (hB.block b (lt_cell h0))
  exact ⟨by rw [k]; exact h0, by rw [k]; exact h1⟩
theorem BlksAt.at {w0 : World} {ao : Option Addr} {l : List Blk} (h : BlksAt w0 ao l) (i : Nat) (c : Blk) (hi : l[i]? = some c) :
    ∃ b off, ao = some ⟨b, off, none⟩ ∧ ∀ w, Below w0.heap.size w0 w → w.cell? ⟨b, off + i * 2, none⟩ = some (.int .i64 c.ty) ∧ w.cell? ⟨b, off + i * 2 + 1, none⟩ = some (.string c.body) := by
  obtain ⟨b, off, e, hc⟩ := h.lies (by have := (List.getElem?_eq_some_iff.1 hi).1; omega)
  refine ⟨b, off, e, fun w hB => ?_⟩
  obtain ⟨h0, h1⟩ := hc i c hi
  have k : ∀ o, w.cell? ⟨b, o, .none⟩ = w0.cell? ⟨b, o, .none⟩ := fun o => World.cell?_of_block (w := w0) (hB.block b (lt_cell h0))
  exact ⟨by rw [k]; exact h0, by rw [k]; exact h1⟩
theorem BlksAt.own {w : World} {B : Nat} {v : Value} {l : List Blk} (h : w.ownsRow B 36 2 v l.length (bcells l)) : ∃ ao cap, v = .slice ao l.length cap ∧ BlksAt w ao l ∧ l.length ≤ cap ∧ (ao = none → cap = 0) := by
  rcases h.2 with ⟨e, e0⟩ | ⟨g, cap, cur, e, hh⟩
  · exact ⟨.none, 0, by rw [e, e0], ⟨fun q => by omega⟩, by omega, fun _ => rfl⟩
  · refine ⟨some ⟨g, 0, .none⟩, cap, e, ⟨fun _ => ⟨g, 0, rfl, fun i c hi => ?_⟩⟩, ?_, fun q => by cases q⟩
    · subst e
      have hl := (List.getElem?_eq_some_iff.1 hi).1
      obtain ⟨c0, c1⟩ := bcells_get l i c hi
      rw [Nat.zero_add]
      exact ⟨by rw [h.cellAt (i * 2) (by omega), c0], by rw [h.cellAt (i * 2 + 1) (by omega), c1]⟩
    · obtain ⟨ao, cap2, e2, _, hle, _⟩ := owns_shape h
      rw [e] at e2
      cases e2
      exact hle
abbrev zeroB : Array Value := #[.int .i64 0, .string ⟨#[]⟩]
theorem infoB2 : (Tryd.prog.info? 36).map (fun i => (i.zero, i.size, i.bytes)) = some (some (.agg zeroB), 2, 24) := by kernel_rfl
theorem info_blk : (Tryd.prog.info? 36).map (·.size) = some 2 := by kernel_rfl
theorem info_parts5 {P : Program} {e : TypeId} {z : Value} {s b : Nat} (h : (P.info? e).map (fun i => (i.zero, i.size, i.bytes)) = some (some z, s, b)) : ∃ i, P.info? e = some i ∧ i.zero = some z ∧ i.size = s ∧ i.bytes = b := by
  cases hi : P.info? e with
  | none => rw [hi] at h; cases h
  | some i =>
    rw [hi] at h
    simp only [Option.map_some, Option.some.injEq, Prod.mk.injEq] at h
    exact ⟨i, rfl, h.1, h.2.1, h.2.2⟩
/-- Append to an owned row, of elements of any size. -/
theorem wpList_append_row {P : Program} (w : World) {ops : Array Oper} {rest : List Oper} {o : Oper} {a : Act} {Q : Exit → Act → World → Prop} (hgd : o.guard = none) (s x : Operand) (t : TypeId)
    (ho : o.op = .call { callee := .builtin .append, args := #[s, x], argTypes := #[t, t] })
    (base : Nat) (e : TypeId) (i : TypeInfo) (z : Value) (size bytes : Nat) (ht : P.underlying t = some (.slice e)) (hi : P.info? e = some i) (hz : i.zero = some z) (hsize : i.size = size) (hby : i.bytes = bytes) (hzs : z.cells.size = size) (hsz : 0 < size)
    (v : Value) (n : Nat) (xs : List Value) (hs : a.eval s = v) (hown : w.ownsRow base e size v n xs)
    (ad : Addr) (m c : Nat) (news : List Value) (hx : a.eval x = .slice (some ad) m c) (hl : news.length = m * size) (hnews : ∀ j u, news[j]? = some u → w.cell? (ad.add j) = some u) (h1 : ∀ u ∈ news, u.oneCell' = true)
    (h63 : n + m ≤ maxLen) (hbytes : (n + m) * bytes ≤ 140737488355328) (hbase : base ≤ w.heap.size)
    (h : ∀ v' w', Hid (w'.ownsRow base e size v' (n + m) (xs ++ news)) → Hid (w.grownBy w' v.ownBlock) → Hid (v'.ownBlock = v.ownBlock ∨ v'.ownBlock = some w.heap.size) → wpList P ops Q rest (a.put o.dst v') w') : wpList P ops Q (o :: rest) a w := by
  refine wpList_plain hgd fun K hK => ?_
  obtain ⟨v', w', hrun, r1, r2, _, r4⟩ := run_append_own_at (P := P) w base t o.type e i z size bytes ht hi hz hsize hby hzs hsz v n xs hown ad m c news hl hnews h1 h63 hbytes hbase
  unfold Oper.wp
  simp [execOp, ho, resolve, invoke, builtin, hs, hx, hrun, Result.andThen]
  exact hK _ _ (h v' w' r1 r2 r4)
theorem two_cells {w : World} {v0 v1 : Value} {e : TypeId} (j : Nat) (u : Value) (hj : [v0, v1][j]? = some u) : (w.alloc (.cells #[v0, v1] e)).cell? ((⟨w.heap.size, 0, none⟩ : Addr).add j) = some u := by
  rw [Addr.add_mid, Nat.zero_add, cell_of_row _ _ _ _ _ _ (heap_alloc_new w _)]
  simpa using hj
theorem set2 (w : World) (g : Nat) (cs : Array Value) (t : TypeId) (v0 v1 : Value) (h2 : cs.size = 2) (h : w.heap[g]? = some (.cells cs t (0, 0))) :
    ((w.setCell ⟨g, 0, none⟩ v0).setCell ⟨g, 1, none⟩ v1).heap[g]? = some (.cells #[v0, v1] t (0, 0)) := by
  rw [block_setCell _ _ _ _ _ _ (block_setCell _ _ _ _ _ _ h)]
  obtain ⟨l⟩ := cs
  match l, h2 with
  | [c0, c1], _ => simp
theorem set2b (w : World) (g : Nat) (B : Nat) (v0 v1 : Value) {a : World} (hg : B ≤ g) (h : Below B a w) : Below B a ((w.setCell ⟨g, 0, none⟩ v0).setCell ⟨g, 1, none⟩ v1) := (h.setCell hg _).setCell hg _

/-- What block tells of a walk at some place. -/
def bkB (s : ByteArray) (o : Option Nat) : Blk := ⟨((numO s o 1 % 128 : Nat) : Int), takeT s (takeO s (takeO s o 1) 3) (numO s (takeO s o 1) 3)⟩
def bkO (s : ByteArray) (o : Option Nat) : Option Nat := takeO s (takeO s (takeO s o 1) 3) (numO s (takeO s o 1) 3)
theorem bk_yes {s : ByteArray} {a : Nat} (h : hasB s a) : bkB s (some a) = blkN s a ∧ bkO s (some a) = some (nxtN s a) ∧ numO s (some a) 1 = numA s a 1 := by
  obtain ⟨h4, hn⟩ := h
  unfold nxtN at hn
  obtain ⟨e1, _, e3⟩ := takeO_yes (s := s) (a := a) (n := 1) (by omega)
  obtain ⟨e4, _, e6⟩ := takeO_yes (s := s) (a := a + 1) (n := 3) (by omega)
  obtain ⟨e7, e8, _⟩ := takeO_yes (s := s) (a := a + 1 + 3) (n := numA s (a + 1) 3) (by omega)
  unfold bkB bkO blkN nxtN
  rw [e3, e1, e4, e6, e7, e8]
  exact ⟨rfl, rfl, rfl⟩
theorem bk_no {s : ByteArray} {a : Nat} (h : ¬ hasB s a) : bkO s (some a) = none := by
  unfold bkO
  by_cases h1 : a + 1 ≤ s.size
  · rw [(takeO_yes h1).1]
    by_cases h3 : a + 1 + 3 ≤ s.size
    · obtain ⟨e4, _, e6⟩ := takeO_yes h3
      rw [e4, e6, takeO_no]
      intro q
      exact h ⟨by omega, by unfold nxtN; omega⟩
    · rw [takeO_no h3]
      rfl
  · rw [takeO_no h1]
    rfl
set_option maxRecDepth 20000 in
set_option maxHeartbeats 1600000 in
theorem block_any (x : Nat) (s : ByteArray) (hs : s.size ≤ 140737488351232) (o : Option Nat) (w : World) (h : Wo w x s o) :
    Calls Tryd.prog 30 #[.pointer (some ⟨x, 0, none⟩)] w fun e w' => e = .returned (.tuple #[blkV (bkB s o), .bool (decide (128 ≤ numO s o 1))]) ∧ Wo w' x s (bkO s o) ∧ Stays (only x) w w' := by
  obtain ⟨wa, hwa⟩ : ∃ wa, wa = w.alloc (.cells zeroB 36) := ⟨_, rfl⟩
  have hB0 : Below w.heap.size w wa := by rw [hwa]; exact (Below.refl _ _).alloc (Nat.le_refl _) _
  have hxl := h.lt
  have h0 : Wo wa x s o := h.below hB0
  have K1 : Hid (∀ wx, Wo wx x s o → Calls Tryd.prog 50 #[.pointer (some ⟨x, 0, none⟩), .int .i64 1] wx fun e w' => e = .returned (.int .i64 (numO s o 1 : Int)) ∧ Wo w' x s (takeO s o 1) ∧ Stays (only x) wx w') := number_any x s hs o 1 (by decide)
  have K3 : Hid (∀ wx, Wo wx x s (takeO s o 1) → Calls Tryd.prog 50 #[.pointer (some ⟨x, 0, none⟩), .int .i64 3] wx fun e w' => e = .returned (.int .i64 (numO s (takeO s o 1) 3 : Int)) ∧ Wo w' x s (takeO s (takeO s o 1) 3) ∧ Stays (only x) wx w') := number_any x s hs _ 3 (by decide)
  have hn1 := numO_lt s o 1 (by decide)
  have hn3 := numO_lt s (takeO s o 1) 3 (by decide)
  have h256 : (256 : Nat) ^ 3 = 16777216 := by decide
  have hn1 : numO s o 1 < 256 := hn1
  have hn3 : numO s (takeO s o 1) 3 < 16777216 := by omega
  have KT := take_any x s hs (takeO s (takeO s o 1) 3) (numO s (takeO s o 1) 3) (by omega)
  have HB : Hid (bkB s o = ⟨((numO s o 1 % 128 : Nat) : Int), takeT s (takeO s (takeO s o 1) 3) (numO s (takeO s o 1) 3)⟩ ∧ bkO s o = takeO s (takeO s (takeO s o 1) 3) (numO s (takeO s o 1) 3)) := ⟨rfl, rfl⟩
  have HR : Hid (wa.heap[w.heap.size]? = some (.cells zeroB 36 (0, 0)) ∧ Stays (only x) w wa) := ⟨by rw [hwa]; exact heap_alloc_new _ _, Stays.of_below hB0 _⟩
  have HWA : Hid (wa = w.alloc (.cells zeroB 36)) := hwa
  have HXN : Hid (w.heap.size ≠ x) := by show _ ≠ _; omega
  have H0 : Hid (Wo wa x s o) := h0
  clear hwa hB0 h h0 hxl h256
  generalize takeT s (takeO s (takeO s o 1) 3) (numO s (takeO s o 1) 3) = R at *
  generalize takeO s (takeO s (takeO s o 1) 3) (numO s (takeO s o 1) 3) = o3 at *
  generalize takeO s (takeO s o 1) 3 = o2 at *
  generalize numO s (takeO s o 1) 3 = n at *
  generalize takeO s o 1 = o1 at *
  generalize numO s o 1 = f at *
  have hm : (f : Int) % 128 = ((f % 128 : Nat) : Int) := by omega
  generalize ((f % 128 : Nat) : Int) = m at *
  have hge : decide ((128 : Int) ≤ (f : Int)) = decide (128 ≤ f) := by rw [decide_eq_decide]; omega
  generalize decide (128 ≤ f) = L at *
  go_enter Tryd.func30, Tryd.ntmps30
  go_wp2_with fail
  rw [← HWA.out]
  refine (K1.out _ H0.out).mono ?_
  rintro e w1 ⟨rfl, h1, s1⟩
  have H1 : Hid (Wo w1 x s o1) := h1
  have HR1 : Hid (w1.heap[w.heap.size]? = some (.cells zeroB 36 (0, 0)) ∧ Stays (only x) w w1) := ⟨by rw [s1.block _ (lt_of_block HR.out.1) (fun q => HXN.out q)]; exact HR.out.1, HR.out.2.trans s1 (fun _ _ q => q)⟩
  clear h1 s1 K1 H0 HR HWA
  go_wp2_with fail
  refine (K3.out _ H1.out).mono ?_
  rintro e w2 ⟨rfl, h2, s2⟩
  have KT2 := KT w2 h2
  have HR2 : Hid (w2.heap[w.heap.size]? = some (.cells zeroB 36 (0, 0)) ∧ Stays (only x) w w2) := ⟨by rw [s2.block _ (lt_of_block HR1.out.1) (fun q => HXN.out q)]; exact HR1.out.1, HR1.out.2.trans s2 (fun _ _ q => q)⟩
  clear h2 s2 K3 H1 HR1 KT
  go_wp2_with fail
  refine KT2.mono ?_
  rintro e w3 ⟨rfl, h3, s3⟩
  have HR3 : Hid (w3.heap[w.heap.size]? = some (.cells zeroB 36 (0, 0)) ∧ Stays (only x) w w3) := ⟨by rw [s3.block _ (lt_of_block HR2.out.1) (fun q => HXN.out q)]; exact HR2.out.1, HR2.out.2.trans s3 (fun _ _ q => q)⟩
  have H3 : Hid (Wo w3 x s o3) := h3
  clear h3 s3 HR2 KT2
  have a0 : w3.cell? ⟨w.heap.size, 0, none⟩ = some (.int .i64 0) := by rw [cell_of_row _ _ _ _ _ _ HR3.out.1]; rfl
  have a1 : w3.cell? ⟨w.heap.size, 1, none⟩ = some (.string ⟨#[]⟩) := by rw [cell_of_row _ _ _ _ _ _ HR3.out.1]; rfl
  have f0 := fz_of HR3.out.1 0
  have f1 := fz_of HR3.out.1 1
  go_wp2_with fail
  clear a0 a1 f0 f1
  generalize hwf : World.setCell _ _ _ = wf
  have HF : Hid (wf.heap[w.heap.size]? = some (.cells #[.int .i64 m, .string R] 36 (0, 0)) ∧ Stays (only x) w wf ∧ Wo wf x s o3) := by
    rw [← hwf]
    refine ⟨set2 _ _ _ _ _ _ rfl HR3.out.1, Stays.setCell (Stays.setCell HR3.out.2 ⟨w.heap.size, 0, none⟩ _ (.inr (Nat.le_refl _))) ⟨w.heap.size, 1, none⟩ _ (.inr (Nat.le_refl _)), H3.out.keep ?_⟩
    rw [Below.heap_setCell _ _ _ _ (by show x ≠ w.heap.size; exact fun q => HXN.out q.symm), Below.heap_setCell _ _ _ _ (by show x ≠ w.heap.size; exact fun q => HXN.out q.symm)]
  refine bodyPost_ret (v := .tuple #[.agg #[.int .i64 m, .string R], .bool L]) ?_ rfl ⟨by rw [HB.out.1], by rw [HB.out.2]; exact HF.out.2.2, HF.out.2.1⟩
  rw [results_two rfl]
  have hld := run_loadVar_row (P := Tryd.prog) wf w.heap.size 36 36 _ (0, 0) _ HF.out.1 Tryd.underlying36 rfl info_blk
  simp [asAddr, Result.andThen, hld]

end Go.Proofs.YtfmpiidnemhijaaDoor
