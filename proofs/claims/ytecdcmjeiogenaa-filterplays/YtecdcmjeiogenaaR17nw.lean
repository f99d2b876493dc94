/- Own text: a chain that the document's New makes. -/
import Derived.Test.YtecdcmjeiogenaaR17chn
namespace Go.Proofs.Ytecdcmjeiogenaa
open Go.RowKit
set_option linter.unusedSimpArgs false
set_option linter.unusedVariables false

theorem infoPX : (Try.prog.info? 57).map (fun i => (i.zero, i.size, i.bytes)) = some (some (.pointer none), 1, 8) := by kernel_rfl
theorem make_ints (n : Nat) (hn : n ≤ 17592186044415) (w : World) : (Instr.makeSlice 22 (.int .i64 (n : Int)) (.int .i64 (n : Int))).run Try.prog w = .ok (.slice (some ⟨w.heap.size, 0, none⟩) n n) (w.alloc (.cells (madeCells #[.int .i64 0] n) 3)) := by
  obtain ⟨i, h1, h2, h3, h4⟩ := int_info
  have hh := run_make (P := Try.prog) w 22 3 i _ undI3 h1 h2 .i64 .i64 (n : Int) (n : Int) (by omega) (Int.le_refl _) (by rw [h4]; omega) (by omega)
  rw [h3] at hh
  simpa [Value.cells] using hh

theorem made_at (n j : Nat) (hj : j < n) : (madeCells #[.int .i64 0] n)[j]? = some (.int .i64 0) := by
  simp only [madeCells, Array.getElem?_map, Array.getElem?_range, hj, if_true, Option.map_some]
  have hs : (#[.int .i64 0] : Array Value).size = 1 := rfl
  rw [hs, Nat.mod_one]
  rfl
theorem getD_rep (n j : Nat) : (List.replicate n (0 : Int)).getD j 0 = 0 := by
  rw [List.getD_eq_getElem?_getD, List.getElem?_replicate]
  split <;> rfl
/-- Append of a row to a row that the call owns, in a region that draws: with where it lies. -/
theorem step_append_row {P : Program} (w : World) {ops : Array Oper} {o : Oper} {a : Act} {K : Act → World → Prop} {Q : Exit → Act → World → Prop} {E : Prop} (hgd : o.guard = none) (s x : Operand) (t : TypeId)
    (ho : o.op = .call { callee := .builtin .append, args := #[s, x], argTypes := #[t, t] })
    (base : Nat) (e : TypeId) (i : TypeInfo) (z : Value) (size bytes : Nat) (ht : P.underlying t = some (.slice e)) (hi : P.info? e = some i) (hz : i.zero = some z) (hsize : i.size = size) (hby : i.bytes = bytes) (hzs : z.cells.size = size) (hsz : 0 < size)
    (v : Value) (n : Nat) (xs : List Value) (hs : a.eval s = v) (hown : w.ownsRow base e size v n xs)
    (ad : Addr) (m c : Nat) (news : List Value) (hx : a.eval x = .slice (some ad) m c) (hl : news.length = m * size) (hnews : ∀ j u, news[j]? = some u → w.cell? (ad.add j) = some u) (h1 : ∀ u ∈ news, u.oneCell' = true)
    (h63 : n + m ≤ maxLen) (hbytes : (n + m) * bytes ≤ 140737488355328) (hbase : base ≤ w.heap.size)
    (h : ∀ v' w', Hid (w'.ownsRow base e size v' (n + m) (xs ++ news)) → Hid (w.grownBy w' v.ownBlock) → Hid (v'.ownBlock = v.ownBlock ∨ v'.ownBlock = some w.heap.size) → K (a.put o.dst v') w') : if Region.wanted o (yielded ops a.tmps) = true then Oper.wp P o a w K Q else E := by
  have hw : Region.wanted o (yielded ops a.tmps) = true := by simp [Region.wanted, hgd]
  rw [if_pos hw]
  obtain ⟨v', w', hrun, r1, r2, _, r4⟩ := run_append_own_at (P := P) w base t o.type e i z size bytes ht hi hz hsize hby hzs hsz v n xs hown ad m c news hl hnews h1 h63 hbytes hbase
  unfold Oper.wp execOp
  simp only [ho, resolve, invoke, builtin, Sem.run_bind, Sem.run_pure, Result.andThen_ok, List.map_toArray, List.map_cons, List.map_nil, hs, hx, hrun]
  exact h v' w' r1 r2 r4
theorem owns_sl {w : World} {B z : Nat} {e : TypeId} {v : Value} {n : Nat} {xs : List Value} (h : w.ownsRow B e z v n xs) : ∃ ao cap, v = .slice ao n cap := by
  obtain ⟨ao, cap, ev, _⟩ := owns_shape h
  exact ⟨ao, cap, ev⟩
theorem one_new (w : World) (u : Value) (t : TypeId) : ∀ j x, [u][j]? = some x → (w.alloc (.cells #[u] t)).cell? ((⟨w.heap.size, 0, none⟩ : Addr).add j) = some x := by
  intro j x hx
  have hj : j = 0 := by have := (List.getElem?_eq_some_iff.1 hx).1; simpa using this
  subst hj
  rw [Addr.add_mid, cell_row (heap_alloc_new w _)]
  simpa using hx
/-- Four boxes made one behind the other. -/
theorem four_boxes (w : World) (A B C D : Array Value) (s t u v : TypeId) : Box ((((w.alloc (.cells A s)).alloc (.cells B t)).alloc (.cells C u)).alloc (.cells D v)) w.heap.size A s ∧ Box ((((w.alloc (.cells A s)).alloc (.cells B t)).alloc (.cells C u)).alloc (.cells D v)) (w.heap.size + 1) B t ∧ Box ((((w.alloc (.cells A s)).alloc (.cells B t)).alloc (.cells C u)).alloc (.cells D v)) (w.heap.size + 1 + 1) C u ∧ Box ((((w.alloc (.cells A s)).alloc (.cells B t)).alloc (.cells C u)).alloc (.cells D v)) (w.heap.size + 1 + 1 + 1) D v ∧ Below w.heap.size w ((((w.alloc (.cells A s)).alloc (.cells B t)).alloc (.cells C u)).alloc (.cells D v)) := by
  have s1 : (w.alloc (.cells A s)).heap.size = w.heap.size + 1 := by simp
  have s2 : ((w.alloc (.cells A s)).alloc (.cells B t)).heap.size = w.heap.size + 1 + 1 := by simp
  have s3 : (((w.alloc (.cells A s)).alloc (.cells B t)).alloc (.cells C u)).heap.size = w.heap.size + 1 + 1 + 1 := by simp
  refine ⟨(((Box.new w A s).keep (below_new _ _)).keep (below_new _ _)).keep (below_new _ _), ?_, ?_, ?_, ((((Below.refl _ _).alloc (Nat.le_refl _) _).alloc (by simp) _).alloc (by simp; omega) _).alloc (by simp; omega) _⟩
  · rw [← s1]; exact ((Box.new _ B t).keep (below_new _ _)).keep (below_new _ _)
  · rw [← s2]; exact (Box.new _ C u).keep (below_new _ _)
  · rw [← s3]; exact Box.new _ D v
/-- A new step. -/
theorem StpAt.new {w : World} {g bw bs n ml : Nat} (hml : ml = max 1 n) (hm : ml ≤ 1000) (hg : w.heap[g]? = some (.cells #[.slice (some ⟨bw, 0, none⟩) n n, .slice (some ⟨bs, 0, none⟩) ml ml] 59 (0, 0))) (hw : w.heap[bw]? = some (.cells (madeCells #[.int .i64 0] n) 3 (0, 0))) (hs : w.heap[bs]? = some (.cells (madeCells #[.int .i64 0] ml) 3 (0, 0))) (n1 : bw ≠ g) (n2 : bs ≠ g) (n3 : bs ≠ bw) : StpAt w g bw bs ml (newS n) := by
  have e1 : (newS n).W.length = n := List.length_replicate
  have e2 : (newS n).S.length = ml := by rw [hml]; exact List.length_replicate
  refine ⟨⟨by rw [e1, e2]; exact hg⟩, ⟨_, hw, fun j hj => ?_⟩, ⟨by omega, fun x hx => ?_, fun _ => ⟨bs, 0, rfl, fun j hj => ?_⟩⟩, by omega, n1, n2, n3, lt_of_block hs⟩
  · rw [e1] at hj
    show _ = some (Value.int .i64 ((List.replicate n (0 : Int)).getD j 0))
    rw [getD_rep]; exact made_at n j hj
  · have := (List.mem_replicate.1 hx).2
    omega
  · rw [e2] at hj
    show _ = some (Value.int .i64 ((List.replicate (max 1 n) (0 : Int)).getD j 0))
    rw [getD_rep, Nat.zero_add, cell_row hs]; exact made_at ml j hj
def ptrC (Q : List (Nat × Nat)) : List Value := Q.map fun q => .pointer (some ⟨q.1, 0, none⟩)
/-- A chain that New is making. -/
structure NwAt (w0 w : World) (pc : Nat) (v : Value) (Q : List (Nat × Nat)) (c : List Stp) : Prop where
  len : c.length = Q.length
  few : Q.length ≤ 1000
  box : Box w pc #[v] 56
  lo : w0.heap.size ≤ pc
  own : w.ownsRow w0.heap.size 57 1 v Q.length (ptrC Q)
  vpc : v.ownBlock ≠ some pc
  stp : ∀ (i g bw : Nat) (s : Stp), Q[i]? = some (g, bw) → c[i]? = some s → ∃ bs cs, StpAt w g bw bs cs s ∧ w0.heap.size ≤ g ∧ w0.heap.size ≤ bw ∧ w0.heap.size ≤ bs ∧ bs ∉ wrL Q ∧ v.ownBlock ≠ some g ∧ v.ownBlock ≠ some bw ∧ v.ownBlock ≠ some bs ∧ pc ≠ bs
  nd : (wrL Q).Nodup
  npc : pc ∉ wrL Q
  ok : ChnG c
  bl : Below w0.heap.size w0 w
/-- The document's New has told a chain. -/
def NewP (w : World) (c : List Stp) (e : Ending) (w' : World) : Prop := ∃ pc ao cap Q, e = .returned (.pointer (some ⟨pc, 0, none⟩)) ∧ ChnAt w' (fun k => w.heap.size ≤ k ∧ k < w'.heap.size) pc ao cap Q c ∧ Below w.heap.size w w'
theorem NwAt.done {w0 w : World} {pc : Nat} {v : Value} {Q : List (Nat × Nat)} {c : List Stp} (h : NwAt w0 w pc v Q c) : ∃ ao cap, v = .slice ao Q.length cap ∧ ChnAt w (fun k => w0.heap.size ≤ k ∧ k < w.heap.size) pc ao cap Q c := by
  obtain ⟨ao, cap, e, _, hle, hno, hat⟩ := owns_shape h.own
  refine ⟨ao, cap, e, h.len, h.few, by rw [← e]; exact h.box, ⟨h.lo, h.box.lt⟩, fun i g bw hi => ?_, fun i g bw s hi hs => ?_, h.nd, h.npc, h.ok⟩
  · have hil : i < Q.length := (List.getElem?_eq_some_iff.1 hi).1
    have hic : i < c.length := by rw [h.len]; exact hil
    cases ao with
    | none => have := (hno rfl).1; omega
    | some a =>
      obtain ⟨ea, hb, _⟩ := hat a rfl
      have ho := h.own
      rw [e, ea] at ho
      refine ⟨a.block, by rw [ea], ⟨hb, (ho.lt _ rfl).2⟩, fun q => ?_, ?_⟩
      · obtain ⟨p, hp, hq⟩ := List.mem_flatMap.1 q
        obtain ⟨m, hm2⟩ := List.getElem?_of_mem hp
        obtain ⟨_, _, _, _, _, _, _, n1, n2, _⟩ := h.stp m p.1 p.2 (c[m]'(by rw [h.len]; exact (List.getElem?_eq_some_iff.1 hm2).1)) hm2 (List.getElem?_eq_getElem _)
        rw [e] at n1 n2
        simp only [List.mem_cons, List.not_mem_nil, or_false] at hq
        rcases hq with hq | hq
        · exact n1 (by rw [← hq]; rfl)
        · exact n2 (by rw [← hq]; rfl)
      · rw [ho.cellAt i (by omega)]
        unfold ptrC
        rw [List.getElem?_map, hi]
        rfl
  · obtain ⟨bs, cs, r, l1, l2, l3, n, _⟩ := h.stp i g bw s hi hs
    exact ⟨bs, cs, r, ⟨l1, r.box.lt⟩, ⟨l2, r.ltw⟩, ⟨l3, r.lts⟩, n⟩
/-- One more step: made in new memory, its pointer appended. -/
theorem NwAt.push {w0 w wz w' : World} {pc g bw bs cs : Nat} {v v' : Value} {Q : List (Nat × Nat)} {c : List Stp} {s : Stp} (h : NwAt w0 w pc v Q c) (hz : Below w.heap.size w wz) (hs : StpAt wz g bw bs cs s) (hg : w.heap.size ≤ g) (hw : w.heap.size ≤ bw) (hb : w.heap.size ≤ bs) (hk : ∃ t, t ≤ 32 ∧ StpOk t s) (hq : Q.length < 1000)
    (ho : w'.ownsRow w0.heap.size 57 1 v' (Q.length + 1) (ptrC Q ++ [.pointer (some ⟨g, 0, none⟩)])) (hgr : wz.grownBy w' v.ownBlock) (hv : v'.ownBlock = v.ownBlock ∨ v'.ownBlock = some wz.heap.size) : NwAt w0 (w'.setCell ⟨pc, 0, none⟩ v') pc v' (Q ++ [(g, bw)]) (c ++ [s]) := by
  have hpl := h.box.lt
  have hvl : ∀ b, v.ownBlock = some b → b < w.heap.size := fun b e => (h.own.lt b e).2
  have hzs := hz.size
  have hgs := hgr.size
  have hv2 : ∀ b, b < wz.heap.size → v.ownBlock ≠ some b → v'.ownBlock ≠ some b := fun b hb hn e => by
    rcases hv with q | q
    · exact hn (q ▸ e)
    · rw [q] at e; injection e with e; omega
  have hpv : v'.ownBlock ≠ some pc := hv2 pc (by omega) h.vpc
  have o : ∀ b, b < wz.heap.size → v.ownBlock ≠ some b → b ≠ pc → (w'.setCell ⟨pc, 0, none⟩ v').heap[b]? = wz.heap[b]? := fun b h1 h2 h3 => by
    rw [Below.heap_setCell w' ⟨pc, 0, none⟩ _ b h3]
    exact hgr.block b h1 (fun e => h2 e.symm)
  have hnv : ∀ b, w.heap.size ≤ b → v.ownBlock ≠ some b := fun b h1 e => by have := hvl b e; omega
  have hbz := (hgr.block pc (by omega) (fun e => h.vpc e.symm)).trans ((hz.block pc hpl).trans h.box.h)
  have hwl : ∀ b ∈ wrL Q, b < w.heap.size := fun b hb => by
    obtain ⟨p, hp, hq⟩ := List.mem_flatMap.1 hb
    obtain ⟨m, hm2⟩ := List.getElem?_of_mem hp
    obtain ⟨_, _, r, _⟩ := h.stp m p.1 p.2 (c[m]'(by rw [h.len]; exact (List.getElem?_eq_some_iff.1 hm2).1)) hm2 (List.getElem?_eq_getElem _)
    have l1 := r.box.lt
    have l2 := r.ltw
    simp only [List.mem_cons, List.not_mem_nil, or_false] at hq
    omega
  have hwr : wrL (Q ++ [(g, bw)]) = wrL Q ++ [g, bw] := by simp [wrL]
  refine ⟨by simp [h.len], by simp; omega, ⟨?_⟩, h.lo, ?_, hpv, fun i g2 b2 s2 hi hsi => ?_, ?_, ?_, fun s2 hm => ?_, ?_⟩
  · exact heap_setCell_same _ _ _ _ _ _ hbz
  · rw [List.length_append, show ptrC (Q ++ [(g, bw)]) = ptrC Q ++ [.pointer (some ⟨g, 0, none⟩)] by simp [ptrC]]
    exact ownsRow_setCell_other ho hpv _
  · by_cases hlt : i < Q.length
    · rw [List.getElem?_append_left hlt] at hi
      rw [List.getElem?_append_left (by rw [h.len]; exact hlt)] at hsi
      obtain ⟨b3, c3, r, l1, l2, l3, n, n1, n2, n3, n4⟩ := h.stp i g2 b2 s2 hi hsi
      have q1 := r.box.lt
      have q2 := r.ltw
      have q3 := r.lts
      have m := wrL_mem hi
      refine ⟨b3, c3, r.keep (by simp; omega) ((o g2 (by omega) n1 (fun e => h.npc (e ▸ m.1))).trans (hz.block _ q1)) ((o b2 (by omega) n2 (fun e => h.npc (e ▸ m.2))).trans (hz.block _ q2)) ((o b3 (by omega) n3 (fun e => n4 e.symm)).trans (hz.block _ q3)), l1, l2, l3, ?_, hv2 _ (by omega) n1, hv2 _ (by omega) n2, hv2 _ (by omega) n3, n4⟩
      rw [hwr, List.mem_append]
      rintro (q | q)
      · exact n q
      · simp only [List.mem_cons, List.not_mem_nil, or_false] at q; omega
    · have hiq : i = Q.length := by have := (List.getElem?_eq_some_iff.1 hi).1; simp at this; omega
      subst hiq
      rw [List.getElem?_append_right (Nat.le_refl _), Nat.sub_self] at hi
      rw [List.getElem?_append_right (by rw [h.len]; exact Nat.le_refl _), h.len, Nat.sub_self] at hsi
      injection hi with hi
      injection hi with e1 e2
      injection hsi with hsi
      subst e1 e2 hsi
      have q1 := hs.box.lt
      have q2 := hs.ltw
      have q3 := hs.lts
      have hlo := h.lo
      refine ⟨bs, cs, hs.keep (by simp; omega) (o g q1 (hnv g hg) (by omega)) (o bw q2 (hnv bw hw) (by omega)) (o bs q3 (hnv bs hb) (by omega)), by omega, by omega, by omega, ?_, hv2 _ q1 (hnv _ hg), hv2 _ q2 (hnv _ hw), hv2 _ q3 (hnv _ hb), by omega⟩
      rw [hwr, List.mem_append]
      rintro (q | q)
      · have := hwl _ q; omega
      · simp only [List.mem_cons, List.not_mem_nil, or_false] at q
        rcases q with q | q
        · exact hs.ne2 q
        · exact hs.ne3 q
  · rw [hwr, List.nodup_append]
    refine ⟨h.nd, ?_, fun a ha b hb e => ?_⟩
    · simp only [List.nodup_cons, List.mem_cons, List.not_mem_nil, or_false, not_false_eq_true, List.nodup_nil, and_true]
      exact fun e => hs.ne1 e.symm
    · have := hwl a ha
      simp only [List.mem_cons, List.not_mem_nil, or_false] at hb
      omega
  · rw [hwr, List.mem_append]
    rintro (q | q)
    · exact h.npc q
    · simp only [List.mem_cons, List.not_mem_nil, or_false] at q; omega
  · rcases List.mem_append.1 hm with hm | hm
    · exact h.ok s2 hm
    · rw [List.mem_singleton] at hm; rw [hm]; exact hk
  · exact (grown_to hgr (below_on h.bl h.bl.size hz) (by have := h.bl.size; omega) (fun k e => (h.own.lt k e).1)).setCell h.lo _

end Go.Proofs.Ytecdcmjeiogenaa
