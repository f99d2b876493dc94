/- Own text: the walks of the document's Ints, SamePlanes, Same. lists of lists of numbers that a call owns: how they grow. It speaks of no program. -/
import Derived.Test.YtaepgjheknkojaaG4x
import Derived.ArgAppend
import Derived.Maps.AppendAt
import Derived.Laws.OwnMore
namespace Go.Proofs.Ytaepgjheknkojaa
open Go.RowKit
set_option linter.unusedSimpArgs false
set_option linter.unusedVariables false

theorem list_eq_of {α : Type} {l m : List α} {d : α} (hl : l.length = m.length) (h : ∀ j, j < l.length → l.getD j d = m.getD j d) : l = m := by
  apply List.ext_getElem hl
  intro j h1 h2
  have := h j h1
  rwa [List.getD_eq_getElem?_getD, List.getD_eq_getElem?_getD, List.getElem?_eq_getElem h1, List.getElem?_eq_getElem h2] at this

def sameB (p q : Pcm) : Bool := decide (p.rate = q.rate) && (decide (p.ch = q.ch) && (decide (p.wd = q.wd) && decide (p.pl = q.pl)))

set_option maxRecDepth 20000 in
set_option maxHeartbeats 1600000 in
theorem rints_spec (l m : List Int) (a b : Option Addr) (c d : Nat) (w : World) (hl : IntsAt w a l) (hm : IntsAt w b m) :
    Calls Try.prog 53 #[.slice a l.length c, .slice b m.length d] w fun e w' => e = .returned (.bool (decide (l = m))) ∧ ∃ n, w' = w.drewN n := by
  have h1 := hl.len
  have h2 := hm.len
  have HL : Hid (IntsAt w a l) := hl
  have HM : Hid (IntsAt w b m) := hm
  clear hl hm
  by_cases he : l.length = m.length
  · have hb : ((l.length : Int) == (m.length : Int)) = true := by rw [he]; exact beq_self_eq_true _
    go_enter Try.func53, Try.ntmps53
    go_wp2_with fail
    go_loopw [5] (fun t wr => ∃ k n : Nat, k ≤ l.length ∧ t = .int .i64 (k : Int) ∧ (∀ j, j < k → l.getD j 0 = m.getD j 0) ∧ wr = w.drewN n) (fun t _ => l.length - (intOf t).toNat)
    case atStart => exact ⟨0, 0, Nat.zero_le _, rfl, fun j hj => absurd hj (Nat.not_lt_zero _), rfl⟩
    case round =>
      obtain ⟨k, n, hk, rfl, hs, rfl⟩ := hrel
      have HS : Hid (∀ j, j < k → l.getD j 0 = m.getD j 0) := hs
      clear hs
      by_cases hlt : k < l.length
      · obtain ⟨b1, o1, rfl, q1, _, _⟩ := HL.out.at k hlt
        obtain ⟨b2, o2, rfl, q2, _, _⟩ := HM.out.at k (by omega)
        have r1 := q1 w (Below.refl _ _)
        have r2 := q2 w (Below.refl _ _)
        have hlt2 : k < m.length := by omega
        clear q1 q2
        by_cases hx : l.getD k 0 = m.getD k 0
        · have HX : Hid (∀ j, j = k → l.getD j 0 = m.getD j 0) := fun j hj => by rw [hj]; exact hx
          have hbx : (l.getD k 0 == m.getD k 0) = true := by rw [hx]; exact beq_self_eq_true _
          clear hx
          generalize l.getD k 0 = x at *
          generalize m.getD k 0 = y at *
          go_wp2_with fail
          go_quiet (fail)
          go_wp2_with fail
          go_roundw
          case rel =>
            refine ⟨k + 1, n + nq, by omega, by go_num, fun j hj => ?_, rfl⟩
            by_cases e : j = k
            · exact HX.out j e
            · exact HS.out j (by omega)
          case measure => simp [intOf]; omega
        · have HD : Hid (decide (l = m) = false) := decide_eq_false (fun e => hx (by rw [e]))
          have hbx : (l.getD k 0 == m.getD k 0) = false := beq_eq_false_iff_ne.2 hx
          clear hx
          generalize l.getD k 0 = x at *
          generalize m.getD k 0 = y at *
          go_wp2_with fail
          go_quiet (fail)
          go_wp2_with fail
          go_ret
          exact ⟨by rw [HD.out]; rfl, n + nq, by rw [World.drewN_drewN]⟩
      · have HD : Hid (decide (l = m) = true) := decide_eq_true (list_eq_of he (fun j hj => HS.out j (by omega)))
        go_wp2_with fail
        go_ret
        exact ⟨by rw [HD.out]; rfl, n, rfl⟩
  · have hb : ((l.length : Int) == (m.length : Int)) = false := beq_eq_false_iff_ne.2 (by omega)
    have HD : Hid (decide (l = m) = false) := decide_eq_false (fun e => he (by rw [e]))
    go_enter Try.func53, Try.ntmps53
    go_wp2_with fail
    go_ret
    exact ⟨by rw [HD.out]; rfl, 0, rfl⟩

set_option maxRecDepth 20000 in
set_option maxHeartbeats 1600000 in
theorem rplanes_spec (l m : List (List Int)) (a b : Option Addr) (c d : Nat) (w : World) (hl : RowsAt w a l) (hm : RowsAt w b m) :
    Calls Try.prog 27 #[.slice a l.length c, .slice b m.length d] w fun e w' => e = .returned (.bool (decide (l = m))) ∧ ∃ n, w' = w.drewN n := by
  have h1 := hl.len
  have h2 := hm.len
  have HL : Hid (RowsAt w a l) := hl
  have HM : Hid (RowsAt w b m) := hm
  clear hl hm
  by_cases he : l.length = m.length
  · have hb : ((l.length : Int) == (m.length : Int)) = true := by rw [he]; exact beq_self_eq_true _
    go_enter Try.func27, Try.ntmps27
    go_wp2_with fail
    go_loopw [5] (fun t wr => ∃ k n : Nat, k ≤ l.length ∧ t = .int .i64 (k : Int) ∧ (∀ j, j < k → l.getD j [] = m.getD j []) ∧ wr = w.drewN n) (fun t _ => l.length - (intOf t).toNat)
    case atStart => exact ⟨0, 0, Nat.zero_le _, rfl, fun j hj => absurd hj (Nat.not_lt_zero _), rfl⟩
    case round =>
      obtain ⟨k, n, hk, rfl, hs, hwr⟩ := hrel
      have HW : Hid (wr = w.drewN n) := hwr
      have hcel : ∀ x v, w.cell? x = some v → wr.cell? x = some v := fun x v hv => by rw [hwr]; exact hv
      have HHP : Hid (wr.heap = w.heap) := by
        show _ = _
        rw [hwr]
        rfl
      clear hwr
      have HS : Hid (∀ j, j < k → l.getD j [] = m.getD j []) := hs
      clear hs
      by_cases hlt : k < l.length
      · obtain ⟨b1, o1, a1, c1, rfl, l1, q1, i1⟩ := HL.out.at k hlt
        obtain ⟨b2, o2, a2, c2, rfl, l2, q2, i2⟩ := HM.out.at k (by omega)
        have r1 := hcel _ _ (q1 w (Below.refl _ _))
        have r2 := hcel _ _ (q2 w (Below.refl _ _))
        have hlt2 : k < m.length := by omega
        have KI : Hid (∀ wx : World, wx.heap = w.heap → Calls Try.prog 53 #[.slice a1 (l.getD k []).length c1, .slice a2 (m.getD k []).length c2] wx fun e w' => e = .returned (.bool (decide (l.getD k [] = m.getD k []))) ∧ ∃ n', w' = wx.drewN n') := fun wx hx => rints_spec _ _ a1 a2 c1 c2 wx (i1.keep (fun _ _ => by rw [hx])) (i2.keep (fun _ _ => by rw [hx]))
        clear q1 q2 i1 i2 hcel
        by_cases hx : l.getD k [] = m.getD k []
        · have HX : Hid (∀ j, j = k → l.getD j [] = m.getD j []) := fun j hj => by rw [hj]; exact hx
          rw [decide_eq_true hx] at KI
          clear hx
          generalize (l.getD k []).length = x at *
          generalize (m.getD k []).length = y at *
          go_wp2_with fail
          go_quiet ((go_at_call 53; refine Calls.quiet_of (KI.out _ ?_); exact HHP.out))
          go_wp2_with fail
          go_roundw
          case rel =>
            refine ⟨k + 1, n + nq, by omega, by go_num, fun j hj => ?_, by rw [HW.out, World.drewN_drewN]⟩
            by_cases e : j = k
            · exact HX.out j e
            · exact HS.out j (by omega)
          case measure => simp [intOf]; omega
        · have HD : Hid (decide (l = m) = false) := decide_eq_false (fun e => hx (by rw [e]))
          rw [decide_eq_false hx] at KI
          clear hx
          generalize (l.getD k []).length = x at *
          generalize (m.getD k []).length = y at *
          go_wp2_with fail
          go_quiet ((go_at_call 53; refine Calls.quiet_of (KI.out _ ?_); exact HHP.out))
          go_wp2_with fail
          go_ret
          exact ⟨by rw [HD.out]; rfl, n + nq, by rw [HW.out, World.drewN_drewN]⟩
      · have HD : Hid (decide (l = m) = true) := decide_eq_true (list_eq_of he (fun j hj => HS.out j (by omega)))
        clear hcel
        go_wp2_with fail
        go_ret
        exact ⟨by rw [HD.out]; rfl, n, HW.out⟩
  · have hb : ((l.length : Int) == (m.length : Int)) = false := beq_eq_false_iff_ne.2 (by omega)
    have HD : Hid (decide (l = m) = false) := decide_eq_false (fun e => he (by rw [e]))
    go_enter Try.func27, Try.ntmps27
    go_wp2_with fail
    go_ret
    exact ⟨by rw [HD.out]; rfl, 0, rfl⟩

set_option maxRecDepth 20000 in
set_option maxHeartbeats 3200000 in
theorem rsame_spec (p q : Pcm) (a b : Option Addr) (c d : Nat) (w : World) (hl : RowsAt w a p.pl) (hm : RowsAt w b q.pl) :
    Calls Try.prog 10 #[pcmV p a c, pcmV q b d] w fun e w' => e = .returned (.bool (sameB p q)) ∧ Below w.heap.size w w' := by
  have HB : Hid (Below w.heap.size w ((w.alloc (.cells (pcmC p a c) 24)).alloc (.cells (pcmC q b d) 24))) := ((Below.refl w.heap.size w).alloc (Nat.le_refl _) _).alloc (by simp) _
  have KP : Hid (∀ wx, Below w.heap.size w wx → Calls Try.prog 27 #[.slice a p.pl.length c, .slice b q.pl.length d] wx fun e w' => e = .returned (.bool (decide (p.pl = q.pl))) ∧ ∃ n, w' = wx.drewN n) := fun wx hx => rplanes_spec p.pl q.pl a b c d wx (hl.below hx) (hm.below hx)
  clear hl hm
  by_cases h0 : p.rate = q.rate
  · have b0 : (p.rate == q.rate) = true := by rw [h0]; exact beq_self_eq_true _
    by_cases h1 : p.ch = q.ch
    · have b1 : (p.ch == q.ch) = true := by rw [h1]; exact beq_self_eq_true _
      by_cases h2 : p.wd = q.wd
      · have b2 : (p.wd == q.wd) = true := by rw [h2]; exact beq_self_eq_true _
        have HS : Hid (sameB p q = decide (p.pl = q.pl)) := by
          show _ = _
          unfold sameB
          rw [decide_eq_true h0, decide_eq_true h1, decide_eq_true h2]
          rfl
        clear h0 h1 h2
        generalize decide (p.pl = q.pl) = B at *
        go_enter Try.func10, Try.ntmps10
        go_wp2_with fail
        refine (KP.out _ HB.out).mono ?_
        rintro e w4 ⟨rfl, n, rfl⟩
        go_wp2
        go_ret
        exact ⟨by rw [HS.out]; rfl, by have h := HB.out; exact ⟨h.os, h.tape, h.output, h.size, h.block⟩⟩
      · have b2 : (p.wd == q.wd) = false := beq_eq_false_iff_ne.2 h2
        have HS : Hid (sameB p q = false) := by
          show _ = _
          unfold sameB
          rw [decide_eq_false h2]
          simp
        clear h0 h1 h2
        go_enter Try.func10, Try.ntmps10
        go_wp2
        go_ret
        exact ⟨by rw [HS.out]; rfl, HB.out⟩
    · have b1 : (p.ch == q.ch) = false := beq_eq_false_iff_ne.2 h1
      have HS : Hid (sameB p q = false) := by
        show _ = _
        unfold sameB
        rw [decide_eq_false h1]
        simp
      clear h0 h1
      go_enter Try.func10, Try.ntmps10
      go_wp2
      go_ret
      exact ⟨by rw [HS.out]; rfl, HB.out⟩
  · have b0 : (p.rate == q.rate) = false := beq_eq_false_iff_ne.2 h0
    have HS : Hid (sameB p q = false) := by
      show _ = _
      unfold sameB
      rw [decide_eq_false h0]
      simp
    clear h0
    go_enter Try.func10, Try.ntmps10
    go_wp2
    go_ret
    exact ⟨by rw [HS.out]; rfl, HB.out⟩

end Go.Proofs.Ytaepgjheknkojaa

namespace Go.Proofs.Ytaepgjheknkojaa
open Go.RowKit
set_option linter.unusedSimpArgs false
set_option linter.unusedVariables false

def intsC (l : List Int) : List Value := l.map fun n => Value.int .i64 n
theorem intsC_length (l : List Int) : (intsC l).length = l.length := by simp [intsC]
theorem intsC_one (l : List Int) : ∀ u ∈ intsC l, u.oneCell' = true := by
  intro u hu
  obtain ⟨n, _, rfl⟩ := List.mem_map.1 hu
  rfl
theorem intsC_append (l m : List Int) : intsC (l ++ m) = intsC l ++ intsC m := by simp [intsC]
abbrev noS : Value := .slice none 0 0

theorem grown_below {w w' : World} (h : Below w.heap.size w w') (row : Option Nat) : w.grownBy w' row := ⟨h.os, h.tape, h.output, h.size, fun k hk _ => h.block k hk⟩
theorem owns_below {w w' : World} {base : Nat} {e : TypeId} {size : Nat} {v : Value} {n : Nat} {xs : List Value} (h : w.ownsRow base e size v n xs) (hB : Below w.heap.size w w') : w'.ownsRow base e size v n xs :=
  h.kept (row := none) (grown_below hB none) (by cases hv : v.ownBlock <;> simp)
theorem grown_to {w w' : World} {row : Option Nat} {B : Nat} {w0 : World} (h : w.grownBy w' row) (hb : Below B w0 w) (hB : B ≤ w.heap.size) (hr : ∀ k, row = some k → B ≤ k) : Below B w0 w' :=
  hb.trans ⟨h.os, h.tape, h.output, h.size, fun k hk => h.block k (Nat.lt_of_lt_of_le hk hB) (fun e => by have := hr k e.symm; omega)⟩

/-- append of any slice to an owned row. -/
theorem run_append_src {P : Program} (w : World) (base : Nat) (t ty e : TypeId) (i : TypeInfo) (z : Value) (bytes : Nat) (ht : P.underlying t = some (.slice e)) (hi : P.info? e = some i) (hz : i.zero = some z)
    (hsize : i.size = 1) (hby : i.bytes = bytes) (hzs : z.cells.size = 1)
    (v : Value) (n : Nat) (xs : List Value) (hown : w.ownsRow base e 1 v n xs)
    (xo : Option Addr) (m c : Nat) (news : List Value) (h0 : xo = none → m = 0 ∧ c = 0) (hl : news.length = m) (hnews : ∀ ad, xo = some ad → ∀ j u, news[j]? = some u → w.cell? (ad.add j) = some u) (h1 : ∀ u ∈ news, u.oneCell' = true)
    (h63 : n + m ≤ maxLen) (hbytes : (n + m) * bytes ≤ 140737488355328) (hbase : base ≤ w.heap.size) :
    ∃ v' w', (Builtin.append_ #[t, t] ty #[v, .slice xo m c]).run P w = .ok v' w' ∧ w'.ownsRow base e 1 v' (n + m) (xs ++ news) ∧ w.grownBy w' v.ownBlock ∧ (v'.ownBlock = v.ownBlock ∨ v'.ownBlock = some w.heap.size) := by
  cases xo with
  | none =>
    obtain ⟨rfl, rfl⟩ := h0 rfl
    obtain rfl : news = [] := List.eq_nil_of_length_eq_zero hl
    refine ⟨v, w, run_append_owned_none w base t ty e i 1 ht hi v n xs hown, ?_, ⟨rfl, rfl, rfl, Nat.le_refl _, fun _ _ _ => rfl⟩, .inl rfl⟩
    rw [List.append_nil]
    exact hown
  | some ad =>
    obtain ⟨v', w', hr, h2, h3, _, h5⟩ := run_append_own_at (P := P) w base t ty e i z 1 bytes ht hi hz hsize hby hzs (by decide) v n xs hown ad m c news (by omega) (hnews ad rfl) h1 h63 hbytes hbase
    exact ⟨v', w', hr, h2, h3, h5⟩

theorem step_append_src {P : Program} (w : World) {ops : Array Oper} {o : Oper} {a : Act} {K : Act → World → Prop} {Q : Exit → Act → World → Prop} {E : Prop} (hgd : o.guard = none) (s x : Operand) (t : TypeId)
    (ho : o.op = .call { callee := .builtin .append, args := #[s, x], argTypes := #[t, t] }) (base : Nat) (e : TypeId) (i : TypeInfo) (z : Value) (bytes : Nat) (ht : P.underlying t = some (.slice e)) (hi : P.info? e = some i) (hz : i.zero = some z)
    (hsize : i.size = 1) (hby : i.bytes = bytes) (hzs : z.cells.size = 1)
    (v : Value) (n : Nat) (xs : List Value) (hs : a.eval s = v) (hown : w.ownsRow base e 1 v n xs)
    (xo : Option Addr) (m c : Nat) (news : List Value) (hx : a.eval x = .slice xo m c) (h0 : xo = none → m = 0 ∧ c = 0) (hl : news.length = m) (hnews : ∀ ad, xo = some ad → ∀ j u, news[j]? = some u → w.cell? (ad.add j) = some u) (h1 : ∀ u ∈ news, u.oneCell' = true)
    (h63 : n + m ≤ maxLen) (hbytes : (n + m) * bytes ≤ 140737488355328) (hbase : base ≤ w.heap.size)
    (h : ∀ v' w', Hid (w'.ownsRow base e 1 v' (n + m) (xs ++ news)) → Hid (w.grownBy w' v.ownBlock) → Hid (v'.ownBlock = v.ownBlock ∨ v'.ownBlock = some w.heap.size) → K (a.put o.dst v') w') :
    if Region.wanted o (yielded ops a.tmps) = true then Oper.wp P o a w K Q else E := by
  have hw : Region.wanted o (yielded ops a.tmps) = true := by simp [Region.wanted, hgd]
  rw [if_pos hw]
  obtain ⟨v', w', hr, h2, h3, h5⟩ := run_append_src (P := P) w base t o.type e i z bytes ht hi hz hsize hby hzs v n xs hown xo m c news h0 hl hnews h1 h63 hbytes hbase
  unfold Oper.wp execOp
  simp only [ho, resolve, invoke, builtin, Sem.run_bind, Sem.run_pure, Result.andThen_ok, List.map_toArray, List.map_cons, List.map_nil, hs, hx, hr]
  exact h v' w' h2 h3 h5

/-- Lists of numbers that a call owns, each apart from the others. -/
structure OwnMat (E : TypeId) (B : Nat) (w : World) (v : Value) (vs : List Value) (xs : List (List Int)) : Prop where
  outer : w.ownsRow B E 1 v xs.length vs
  inner : ∀ i, i < xs.length → w.ownsRow B 3 1 (vs.getD i noS) (xs.getD i []).length (intsC (xs.getD i []))
  apart : ∀ i j, i < xs.length → j < xs.length → i ≠ j → (vs.getD i noS).ownBlock = none ∨ (vs.getD i noS).ownBlock ≠ (vs.getD j noS).ownBlock
  aside : ∀ i, i < xs.length → (vs.getD i noS).ownBlock = none ∨ (vs.getD i noS).ownBlock ≠ v.ownBlock

theorem OwnMat.empty (E : TypeId) (B : Nat) (w : World) : OwnMat E B w noS [] [] :=
  ⟨World.ownsRow_nil w B E 1, fun i hi => absurd hi (Nat.not_lt_zero _), fun i j hi => absurd hi (Nat.not_lt_zero _), fun i hi => absurd hi (Nat.not_lt_zero _)⟩
theorem OwnMat.vlen {E : TypeId} {B : Nat} {w : World} {v : Value} {vs : List Value} {xs : List (List Int)} (h : OwnMat E B w v vs xs) : vs.length = xs.length := by
  have := h.outer.1
  omega
theorem OwnMat.next {E : TypeId} {B : Nat} {w w' : World} {v : Value} {vs : List Value} {xs : List (List Int)} (h : OwnMat E B w v vs xs) (hB : Below w.heap.size w w') : OwnMat E B w' v vs xs :=
  ⟨owns_below h.outer hB, fun i hi => owns_below (h.inner i hi) hB, h.apart, h.aside⟩
theorem OwnMat.kept {E : TypeId} {B : Nat} {w w' : World} {v : Value} {vs : List Value} {xs : List (List Int)} (h : OwnMat E B w v vs xs) {row : Option Nat} (hg : w.grownBy w' row) (h1 : v.ownBlock = Option.none ∨ v.ownBlock ≠ row) (h2 : ∀ i, i < xs.length → (vs.getD i noS).ownBlock = Option.none ∨ (vs.getD i noS).ownBlock ≠ row) : OwnMat E B w' v vs xs :=
  ⟨h.outer.kept hg h1, fun i hi => (h.inner i hi).kept hg (h2 i hi), h.apart, h.aside⟩
/-- A block that is not yet there is none of its own. -/
theorem owns_new {w : World} {base : Nat} {e : TypeId} {size : Nat} {v : Value} {n : Nat} {xs : List Value} (h : w.ownsRow base e size v n xs) {b : Option Nat} (hb : ∀ k, b = some k → w.heap.size ≤ k) : v.ownBlock = Option.none ∨ v.ownBlock ≠ b := by
  cases hv : v.ownBlock with
  | none => exact .inl rfl
  | some k =>
    right
    intro e
    have h1 := (h.lt k hv).2
    have h2 := hb k e.symm
    omega

theorem getD_snoc_lt {α : Type} (l : List α) (x d : α) (i : Nat) (h : i < l.length) : (l ++ [x]).getD i d = l.getD i d := by
  rw [List.getD_eq_getElem?_getD, List.getElem?_append_left h, List.getD_eq_getElem?_getD]
theorem getD_snoc_eq {α : Type} (l : List α) (x d : α) (i : Nat) (h : i = l.length) : (l ++ [x]).getD i d = x := by
  subst h
  rw [List.getD_eq_getElem?_getD, List.getElem?_append_right (Nat.le_refl _)]
  simp

/-- One more list, appended. -/
theorem OwnMat.push {E : TypeId} {B : Nat} {w w' : World} {v v' : Value} {vs : List Value} {xs : List (List Int)} (h : OwnMat E B w v vs xs) {u : Value} {l : List Int} (hu : w.ownsRow B 3 1 u l.length (intsC l))
    (ha : ∀ i, i < xs.length → (vs.getD i noS).ownBlock = Option.none ∨ (vs.getD i noS).ownBlock ≠ u.ownBlock) (hv : u.ownBlock = Option.none ∨ u.ownBlock ≠ v.ownBlock)
    (ho : w'.ownsRow B E 1 v' (xs.length + 1) (vs ++ [u])) (hg : w.grownBy w' v.ownBlock) (hb : v'.ownBlock = v.ownBlock ∨ v'.ownBlock = some w.heap.size) : OwnMat E B w' v' (vs ++ [u]) (xs ++ [l]) := by
  have hvl := h.vlen
  have hnew : ∀ {x : Value} {n : Nat} {ys : List Value}, w.ownsRow B 3 1 x n ys → (x.ownBlock = Option.none ∨ x.ownBlock ≠ v.ownBlock) → (x.ownBlock = Option.none ∨ x.ownBlock ≠ v'.ownBlock) := fun {x} {n} {ys} hx hxv => by
    rcases hb with e | e
    · rw [e]
      exact hxv
    · exact owns_new hx (fun k hk => by rw [e] at hk; cases hk; exact Nat.le_refl _)
  refine ⟨by rw [List.length_append]; exact ho, fun i hi => ?_, fun i j hi hj hij => ?_, fun i hi => ?_⟩
  · rw [List.length_append] at hi
    by_cases e : i < xs.length
    · rw [getD_snoc_lt _ _ _ _ (by omega), getD_snoc_lt _ _ _ _ e]
      exact (h.inner i e).kept hg (h.aside i e)
    · have e2 : i = xs.length := by simp at hi; omega
      rw [getD_snoc_eq _ _ _ _ (by omega), getD_snoc_eq _ _ _ _ e2]
      exact hu.kept hg hv
  · rw [List.length_append] at hi hj
    simp only [List.length_cons, List.length_nil] at hi hj
    by_cases e : i < xs.length
    · rw [getD_snoc_lt _ _ _ _ (by omega)]
      by_cases e2 : j < xs.length
      · rw [getD_snoc_lt _ _ _ _ (by omega)]
        exact h.apart i j e e2 hij
      · rw [getD_snoc_eq _ _ _ _ (by omega)]
        exact ha i e
    · rw [getD_snoc_eq _ _ _ i (by omega), getD_snoc_lt _ _ _ j (by omega)]
      rcases ha j (by omega) with q | q
      · rw [q]
        cases hu0 : u.ownBlock with
        | none => exact .inl rfl
        | some k => exact .inr (by simp)
      · exact .inr (fun e => q e.symm)
  · rw [List.length_append] at hi
    simp only [List.length_cons, List.length_nil] at hi
    by_cases e : i < xs.length
    · rw [getD_snoc_lt _ _ _ _ (by omega)]
      exact hnew (h.inner i e) (h.aside i e)
    · rw [getD_snoc_eq _ _ _ _ (by omega)]
      exact hnew hu hv

end Go.Proofs.Ytaepgjheknkojaa
