/- Own text: the walks of laced, texts and SamePlanes. pages and texts that came in as arguments, opened. -/
import Derived.Test.YtjkamannjgcmiaaDoorR15same
namespace Go.Proofs.YtjkamannjgcmiaaDoor
open Go.RowKit
set_option linter.unusedSimpArgs false
set_option linter.unusedVariables false

theorem map_take (l m : List Pg) (k : Nat) (p q : Pg) (h : (l.map Pg.la).take k = (m.map Pg.la).take k) (h1 : l[k]? = some p) (h2 : m[k]? = some q) (e : p.la = q.la) : (l.map Pg.la).take (k + 1) = (m.map Pg.la).take (k + 1) := by
  rw [List.take_add_one, List.take_add_one, h, List.getElem?_map, List.getElem?_map, h1, h2]
  simp [e]
set_option maxRecDepth 20000 in
set_option maxHeartbeats 3200000 in
theorem laced_any (l m : List Pg) (a b : Option Addr) (c d : Nat) (w : World) (hl : PgsAt w a l) (hm : PgsAt w b m) (hn : l.length ≤ 1000000000000) (hn2 : m.length ≤ 1000000000000) :
    Calls Tryd.prog 21 #[.slice a l.length c, .slice b m.length d] w fun e w' => e = .returned (.bool (decide (l.map Pg.la = m.map Pg.la))) ∧ Below w.heap.size w w' := by
  have HL : Hid (PgsAt w a l) := hl
  have HM : Hid (PgsAt w b m) := hm
  clear hl hm
  by_cases hlen : l.length = m.length
  · have HE : Hid (l.length = m.length) := hlen
    rw [← hlen]
    clear hlen hn2
    go_enter Tryd.func21, Tryd.ntmps21
    go_wp2_with fail
    go_loopw [5] (fun t wr => ∃ k : Nat, k ≤ l.length ∧ t = .int .i64 (k : Int) ∧ Below w.heap.size w wr ∧ (l.map Pg.la).take k = (m.map Pg.la).take k) (fun t _ => l.length - (intOf t).toNat)
    case atStart => exact ⟨0, Nat.zero_le _, rfl, Below.refl _ _, rfl⟩
    case round =>
      obtain ⟨k, hk, rfl, hb, ht⟩ := hrel
      have HB : Hid (Below w.heap.size w wr) := hb
      have HT : Hid ((l.map Pg.la).take k = (m.map Pg.la).take k) := ht
      clear hb ht
      by_cases hlt : k < l.length
      · obtain ⟨p, hp⟩ : ∃ p, l[k]? = some p := ⟨_, List.getElem?_eq_getElem hlt⟩
        obtain ⟨q, hq⟩ : ∃ q, m[k]? = some q := ⟨_, List.getElem?_eq_getElem (by rw [← HE.out]; exact hlt)⟩
        obtain ⟨b1, o1, rfl, ap, ac, hpa, q1⟩ := HL.out.at k p hp
        obtain ⟨b2, o2, rfl, bp, bc, hpb, q2⟩ := HM.out.at k q hq
        have KI : Hid (∀ n, Calls Tryd.prog 17 #[.slice ap p.la.length ac, .slice bp q.la.length bc] (wr.drewN n) fun e w' => e = .returned (.bool (decide (p.la = q.la))) ∧ ∃ m, w' = (wr.drewN n).drewN m) := fun n => ints_any _ _ _ _ _ _ _ (hpa.la.below (Below.drewN HB.out n)) (hpb.la.below (Below.drewN HB.out n))
        have x4 := (q1 wr HB.out).2.2.2.2
        have y4 := (q2 wr HB.out).2.2.2.2
        have HD : Hid (p.la = q.la → (l.map Pg.la).take (k + 1) = (m.map Pg.la).take (k + 1)) := map_take l m k p q HT.out hp hq
        have HF : Hid (¬ p.la = q.la → decide (l.map Pg.la = m.map Pg.la) = false) := fun h => decide_eq_false (fun e => h (by
          have e2 := congrArg (fun z => z[k]?) e
          simp only [List.getElem?_map, hp, hq, Option.map_some, Option.some.injEq] at e2
          exact e2))
        clear hpa hpb q1 q2 hp hq HT
        by_cases hpq : p.la = q.la
        · rw [decide_eq_true hpq] at KI
          have HD2 := hid (HD.out hpq)
          clear HD HF hpq
          go_wp2_with fail
          go_quiet ((go_at_call 17; exact Calls.quiet_of (KI.out _)))
          go_wp2_with fail
          go_roundw
          case rel => exact ⟨k + 1, by omega, by go_num, Below.drewN HB.out nq, HD2.out⟩
          case measure => simp [intOf]; omega
        · rw [decide_eq_false hpq] at KI
          have HF2 := hid (HF.out hpq)
          clear HD HF hpq
          go_wp2_with fail
          go_quiet ((go_at_call 17; exact Calls.quiet_of (KI.out _)))
          go_wp2_with fail
          go_ret
          exact ⟨by rw [HF2.out]; rfl, Below.drewN HB.out nq⟩
      · have HD : Hid (decide (l.map Pg.la = m.map Pg.la) = true) := decide_eq_true (by
          have := HT.out
          rw [List.take_of_length_le (by simp; omega), List.take_of_length_le (by have := HE.out; simp; omega)] at this
          exact this)
        go_wp2_with fail
        go_ret
        exact ⟨by rw [HD.out]; rfl, HB.out⟩
  · have hb : ((l.length : Int) != (m.length : Int)) = true := by rw [bne_iff_ne]; omega
    have HD : Hid (decide (l.map Pg.la = m.map Pg.la) = false) := decide_eq_false (fun e => hlen (by have := congrArg List.length e; simpa using this))
    clear hlen HL HM
    go_enter Tryd.func21, Tryd.ntmps21
    go_wp2_with fail
    go_ret
    exact ⟨by rw [HD.out]; rfl, Below.refl _ _⟩
/-- Texts in memory. -/
structure StrsAt (w : World) (ao : Option Addr) (l : List ByteArray) : Prop where
  lies : 0 < l.length → ∃ b off, ao = some ⟨b, off, none⟩ ∧ ∀ i t, l[i]? = some t → w.cell? ⟨b, off + i, none⟩ = some (.string t)
theorem StrsAt.nil (w : World) (ao : Option Addr) : StrsAt w ao [] := ⟨fun h => absurd h (by simp)⟩
theorem StrsAt.below {w w' : World} {ao : Option Addr} {l : List ByteArray} (h : StrsAt w ao l) (hB : Below w.heap.size w w') : StrsAt w' ao l := by
  refine ⟨fun h0 => ?_⟩
  obtain ⟨b, off, e, hc⟩ := h.lies h0
  refine ⟨b, off, e, fun i t hi => ?_⟩
  have h1 := hc i t hi
  rw [← h1]
  exact World.cell?_of_block (w := w) (hB.block b (lt_cell h1))
theorem StrsAt.at {w0 : World} {ao : Option Addr} {l : List ByteArray} (h : StrsAt w0 ao l) (i : Nat) (t : ByteArray) (hi : l[i]? = some t) :
    ∃ b off, ao = some ⟨b, off, none⟩ ∧ ∀ w, Below w0.heap.size w0 w → w.cell? ⟨b, off + i, none⟩ = some (.string t) := by
  obtain ⟨b, off, e, hc⟩ := h.lies (by have := (List.getElem?_eq_some_iff.1 hi).1; omega)
  refine ⟨b, off, e, fun w hB => ?_⟩
  have h1 := hc i t hi
  rw [← h1]
  exact World.cell?_of_block (w := w0) (hB.block b (lt_cell h1))
set_option maxRecDepth 20000 in
set_option maxHeartbeats 3200000 in
theorem texts_same (l : List ByteArray) (a b : Option Addr) (c d : Nat) (w : World) (hl : StrsAt w a l) (hm : StrsAt w b l) (hn : l.length ≤ 140737488355328) :
    Calls Tryd.prog 11 #[.slice a l.length c, .slice b l.length d] w fun e w' => e = .returned (.bool true) ∧ Below w.heap.size w w' := by
  have HL : Hid (StrsAt w a l) := hl
  have HM : Hid (StrsAt w b l) := hm
  clear hl hm
  go_enter Tryd.func11, Tryd.ntmps11
  go_wp2_with fail
  go_loopw [5] (fun t wr => ∃ k : Nat, k ≤ l.length ∧ t = .int .i64 (k : Int) ∧ Below w.heap.size w wr) (fun t _ => l.length - (intOf t).toNat)
  case atStart => exact ⟨0, Nat.zero_le _, rfl, Below.refl _ _⟩
  case round =>
    obtain ⟨k, hk, rfl, hb⟩ := hrel
    have HB : Hid (Below w.heap.size w wr) := hb
    clear hb
    by_cases hlt : k < l.length
    · obtain ⟨p, hp⟩ : ∃ p, l[k]? = some p := ⟨_, List.getElem?_eq_getElem hlt⟩
      obtain ⟨b1, o1, rfl, q1⟩ := HL.out.at k p hp
      obtain ⟨b2, o2, rfl, q2⟩ := HM.out.at k p hp
      have r1 := q1 wr HB.out
      have r2 := q2 wr HB.out
      clear q1 q2 hp
      go_wp2_with fail
      go_quiet (fail)
      go_wp2_with fail
      go_roundw
      case rel => exact ⟨k + 1, by omega, by go_num, Below.drewN HB.out nq⟩
      case measure => simp [intOf]; omega
    · go_wp2_with fail
      go_ret
      exact ⟨rfl, HB.out⟩
/-- A list of lists in memory. -/
structure RowsAt (w : World) (ao : Option Addr) (xs : List (List Int)) : Prop where
  len : xs.length ≤ 5864062014805
  lies : 0 < xs.length → ∃ b off, ao = some ⟨b, off, none⟩ ∧ ∀ i, i < xs.length → ∃ a c, w.cell? ⟨b, off + i, none⟩ = some (.slice a (xs.getD i []).length c) ∧ (xs.getD i []).length ≤ c ∧ (a = none → c = 0) ∧ IntsAt w a (xs.getD i [])
theorem RowsAt.below {w w' : World} {ao : Option Addr} {xs : List (List Int)} (h : RowsAt w ao xs) (hb : Below w.heap.size w w') : RowsAt w' ao xs := by
  refine ⟨h.len, fun h0 => ?_⟩
  obtain ⟨b, off, e, hc⟩ := h.lies h0
  refine ⟨b, off, e, fun i hi => ?_⟩
  obtain ⟨a, c, h1, h2, h3, h4⟩ := hc i hi
  exact ⟨a, c, by rw [World.cell?_of_block (w := w) (hb.block _ (lt_cell h1))]; exact h1, h2, h3, h4.below hb⟩
set_option maxRecDepth 20000 in
set_option maxHeartbeats 3200000 in
theorem planes_same (xs : List (List Int)) (ao bo : Option Addr) (ac bc : Nat) (w : World) (h1 : RowsAt w ao xs) (h2 : RowsAt w bo xs) : Calls Tryd.prog 19 #[.slice ao xs.length ac, .slice bo xs.length bc] w fun e w' => e = .returned (.bool true) ∧ Below w.heap.size w w' := by
  have hl := h1.len
  have H1 : Hid (RowsAt w ao xs) := h1
  have H2 : Hid (RowsAt w bo xs) := h2
  clear h1 h2
  go_enter Tryd.func19, Tryd.ntmps19
  go_wp2_with fail
  go_loopw [5] (fun s5 wr => ∃ i : Nat, i ≤ xs.length ∧ s5 = .int .i64 (i : Int) ∧ Below w.heap.size w wr) (fun s5 _ => xs.length - (intOf s5).toNat)
  case atStart => exact ⟨0, Nat.zero_le _, rfl, Below.refl _ _⟩
  case round =>
    obtain ⟨i, hi, rfl, hb⟩ := hrel
    have HB : Hid (Below w.heap.size w wr) := hb
    by_cases hlt : i < xs.length
    · obtain ⟨b1, o1, rfl, q1⟩ := H1.out.lies (by omega)
      obtain ⟨b2, o2, rfl, q2⟩ := H2.out.lies (by omega)
      obtain ⟨a1, c1, m1, m2, m3, m4⟩ := q1 i hlt
      obtain ⟨a2, c2, n1, n2, n3, n4⟩ := q2 i hlt
      have x1 : wr.cell? ⟨b1, o1 + i, none⟩ = some (.slice a1 (xs.getD i []).length c1) := by rw [World.cell?_of_block (w := w) (hb.block _ (lt_cell m1))]; exact m1
      have x2 : wr.cell? ⟨b2, o2 + i, none⟩ = some (.slice a2 (xs.getD i []).length c2) := by rw [World.cell?_of_block (w := w) (hb.block _ (lt_cell n1))]; exact n1
      have KI : Hid (∀ n, Calls Tryd.prog 17 #[.slice a1 (xs.getD i []).length c1, .slice a2 (xs.getD i []).length c2] (wr.drewN n) fun e w' => e = .returned (.bool true) ∧ ∃ m, w' = (wr.drewN n).drewN m) := fun n => (ints_any (xs.getD i []) (xs.getD i []) a1 a2 c1 c2 (wr.drewN n) (m4.below (Below.drewN hb n)) (n4.below (Below.drewN hb n))).mono fun e w' h => ⟨by rw [h.1, decide_eq_true rfl], h.2⟩
      clear q1 q2 m1 m2 m3 m4 n1 n2 n3 n4 hb
      generalize xs.getD i [] = l at *
      go_wp2_with fail
      go_quiet ((go_at_call 17; exact Calls.quiet_of (KI.out _)))
      go_wp2_with fail
      go_roundw
      case rel => exact ⟨i + 1, by omega, by go_num, Below.drewN HB.out nq⟩
      case measure => simp [intOf]; omega
    · clear hb
      go_wp2_with fail
      go_ret
      exact ⟨rfl, HB.out⟩

end Go.Proofs.YtjkamannjgcmiaaDoor

namespace Go.Proofs.YtjkamannjgcmiaaDoor
open Go.ChangeShapes Go.WideShapes Go.ChangeAt Go.RowKit Go.Deep Go.Joins
set_option linter.unusedSimpArgs false
set_option linter.unusedVariables false

theorem acells3 : Tryd.prog.cellsOf 3 = 1 := by kernel_rfl
theorem acells9 : Tryd.prog.cellsOf 9 = 1 := by kernel_rfl
theorem acellsI : Tryd.prog.cellsOf 37 = 1 := by kernel_rfl
theorem acellsP : Tryd.prog.cellsOf 49 = 5 := by kernel_rfl
theorem abytes3 : Tryd.prog.bytesOf 3 = 8 := by kernel_rfl
theorem abytesP : Tryd.prog.bytesOf 49 = 56 := by kernel_rfl
theorem abytes9 : Tryd.prog.bytesOf 9 = 16 := by kernel_rfl
theorem weights_all {H : Type} (P : Program) (e : TypeId) : ∀ (l : List (DataW H)) (d : DataW H), d ∈ l → ∀ n ∈ d.weights P e, n ∈ DataW.weightsAll P e l
  | [], d, h, n, hn => by cases h
  | x :: r, d, h, n, hn => by
    have e1 : DataW.weightsAll P e (x :: r) = x.weights P e ++ DataW.weightsAll P e r := rfl
    rw [e1]
    rcases List.mem_cons.1 h with h | h
    · subst h
      exact List.mem_append.2 (.inl hn)
    · exact List.mem_append.2 (.inr (weights_all P e r d h n hn))
section
variable {H : Type} {enc : TypeId × Value → H} {w : World} {base base2 : Nat} {held : Bool}
theorem at_spot {a : Addr} {v : Value} (h : w.cell? (a.add 0) = some v) : ∃ b off, a = ⟨b, off, none⟩ := by
  obtain ⟨b, off, spot⟩ := a
  cases spot with
  | none => exact ⟨b, off, rfl⟩
  | some x =>
    exfalso
    unfold Addr.add World.cell? at h
    split at h <;> simp at h
theorem bulk_lits (k : IntKind) : ∀ zs : List Int, Rows.uptoBulkAll (lits (H := H) k zs) = zs.length
  | [] => rfl
  | z :: t => by
    have ih := bulk_lits k t
    show Rows.uptoBulkAll (DataW.lit (.int k z) :: lits (H := H) k t) = t.length + 1
    simp only [Rows.uptoBulkAll, Rows.uptoBulk]
    omega
/-- A list of numbers, opened. -/
theorem open_row {fuel : Nat} {cs : List Value} {x : DataW H × List MemPlace} (h : DataW.trod enc Tryd.prog w base (fun _ => true) held fuel 37 cs = some x) (hw : ∀ n ∈ x.1.weights Tryd.prog 37, n ≤ reachBytes) :
    ∃ (ao : Option Addr) (cap : Nat) (l : List Int), cs = [.slice ao l.length cap] ∧ IntsAt w ao l ∧ l.length ≤ cap ∧ (ao = none → cap = 0) ∧ l.length + 1 ≤ Rows.uptoBulk x.1 := by
  rcases open_ints Tryd.underlying37 Tryd.underlying3 acells3 h with ⟨rfl, rfl⟩ | ⟨a, len, cap, zs, rfl, _, hl, hm, hz, hx, hc, hwf⟩
  · exact ⟨none, 0, [], rfl, ⟨by simp, fun n hn => absurd hn (by simp), fun h => absurd h (by simp)⟩, Nat.le_refl _, fun _ => rfl, Nat.le_refl _⟩
  · simp only [if_true] at hz
    rw [hx] at hw
    simp only [DataW.weights, Tryd.underlying37] at hw
    have hcap : cap * 8 ≤ reachBytes := by
      have := hw _ (List.mem_cons_self)
      rw [abytes3] at this
      simp only [lits, List.length_map, List.length_take, List.length_drop] at this
      have e : min len zs.length + (zs.length - len) = cap := by omega
      rwa [e] at this
    simp only [reachBytes] at hcap
    have hL : (zs.take len).length = len := by rw [List.length_take]; omega
    refine ⟨some a, cap, zs.take len, by rw [hL], ⟨by rw [hL]; omega, fun n hn => bounds_i64 (hwf n (List.mem_of_mem_take hn)), fun h0 => ?_⟩, by rw [hL]; exact hl, fun e => (by cases e), by
      rw [hL, hx]
      simp only [Rows.uptoBulk, bulk_lits, List.length_take]
      omega⟩
    rw [hL] at h0
    obtain ⟨b, off, rfl⟩ := at_spot (hc 0 (by omega))
    refine ⟨b, off, rfl, fun j hj => ?_⟩
    rw [hL] at hj
    have h9 := hc j (by omega)
    rw [Addr.add_mid] at h9
    rw [h9]
    congr 2
    rw [List.getD_eq_getElem?_getD, List.getD_eq_getElem?_getD, List.getElem?_take, if_pos hj]
set_option maxRecDepth 40000 in
/-- A page's five cells, opened. -/
theorem open_pgC {fuel : Nat} {cs : List Value} {x : DataW H × List MemPlace} (hf : DataW.trod enc Tryd.prog w base (fun _ => true) held fuel 49 cs = some x) (hw : ∀ n ∈ x.1.weights Tryd.prog 49, n ≤ reachBytes) :
    ∃ (p : Pg) (ap : Option Addr) (ac : Nat), cs = pgC p ap ac ∧ PgAt w p ap ac ∧ p.gr ≤ 9223372036854775807 ∧ p.la.length + 1 ≤ Rows.uptoBulk x.1 := by
  obtain ⟨xs, n, rfl, hx, hl, hxl, hall⟩ := DataW.trod_struct Tryd.underlying49 hf
  rw [acellsP] at hl
  have hd : x.1 = .agg (xs.map (·.1)) := congrArg Prod.fst hx
  have h0 : DataW.trod enc Tryd.prog w base (fun _ => true) held n 3 ((cs.drop 0).take (Tryd.prog.cellsOf 3)) = xs[0]? := hall 0 _ rfl
  have h1 : DataW.trod enc Tryd.prog w base (fun _ => true) held n 3 ((cs.drop 1).take (Tryd.prog.cellsOf 3)) = xs[1]? := hall 1 _ rfl
  have h2 : DataW.trod enc Tryd.prog w base (fun _ => true) held n 3 ((cs.drop 2).take (Tryd.prog.cellsOf 3)) = xs[2]? := hall 2 _ rfl
  have h3 : DataW.trod enc Tryd.prog w base (fun _ => true) held n 3 ((cs.drop 3).take (Tryd.prog.cellsOf 3)) = xs[3]? := hall 3 _ rfl
  have h4 : DataW.trod enc Tryd.prog w base (fun _ => true) held n 37 ((cs.drop 4).take (Tryd.prog.cellsOf 37)) = xs[4]? := hall 4 _ rfl
  have hxl5 : xs.length = 5 := hxl
  clear hall hf hx hxl
  match cs, hl, xs, hxl5, hd with
  | [c0, c1, c2, c3, c4], _, [x0, x1, x2, x3, x4], _, hd =>
    simp only [acells3, acellsI, List.drop_zero, List.drop_succ_cons, List.take_succ_cons, List.take_zero, List.getElem?_cons_zero, List.getElem?_cons_succ] at h0 h1 h2 h3 h4
    obtain ⟨z0, e0, f0, q0⟩ := DataW.trod_int Tryd.underlying3 h0
    obtain ⟨z1, e1, f1, q1⟩ := DataW.trod_int Tryd.underlying3 h1
    obtain ⟨z2, e2, f2, q2⟩ := DataW.trod_int Tryd.underlying3 h2
    obtain ⟨z3, e3, f3, q3⟩ := DataW.trod_int Tryd.underlying3 h3
    obtain ⟨ao, cap, l, e4, i1, i2, i3, i4⟩ := open_row h4 (fun n hn => hw n (by
      rw [hd]
      simp [DataW.weights, Tryd.underlying49, DataW.weightsEach]
      exact .inr (.inr (.inr (.inr hn)))))
    simp at e0 e1 e2 e3 e4
    subst e0 e1 e2 e3 e4
    refine ⟨⟨z0, z1, z2, z3, l⟩, ao, cap, rfl, ⟨i1, i2, i3⟩, (bounds_i64 q3).2, ?_⟩
    rw [hd]
    simp only [List.map_cons, List.map_nil, Rows.uptoBulk, Rows.uptoBulkAll]
    show l.length + 1 ≤ _
    omega
theorem bulk_range (D : Nat → DataW H) (f : Nat → Nat) : ∀ n : Nat, (∀ i, i < n → f i ≤ Rows.uptoBulk (D i)) → ((List.range n).map f).sum ≤ Rows.uptoBulkAll ((List.range n).map D)
  | 0, _ => Nat.le_refl _
  | n + 1, h => by
    have ih := bulk_range D f n (fun i hi => h i (by omega))
    have hn := h n (by omega)
    have app : ∀ (l : List (DataW H)) (d : DataW H), Rows.uptoBulkAll (l ++ [d]) = Rows.uptoBulkAll l + Rows.uptoBulk d := by
      intro l d
      induction l with
      | nil => simp only [List.nil_append, Rows.uptoBulkAll]; omega
      | cons a r ih => simp only [List.cons_append, Rows.uptoBulkAll, ih]; omega
    rw [List.range_succ, List.map_append, List.map_append, List.sum_append, List.map_singleton, List.map_singleton, app, List.sum_singleton]
    omega
theorem laces_sumL (l : List Pg) : (lacesL l).length = (l.map fun p => p.la.length).sum := by
  induction l with
  | nil => rfl
  | cons p t ih => show (p.la ++ lacesL t).length = _; rw [List.length_append, ih]; simp
set_option maxRecDepth 20000 in
/-- Pages as an argument. -/
theorem open_pages {fuel : Nat} {cs : List Value} {x : DataW H × List MemPlace} (h : DataW.trod enc Tryd.prog w base (fun _ => true) held fuel 22 cs = some x) (hw : ∀ n ∈ x.1.weights Tryd.prog 22, n ≤ reachBytes) :
    ∃ (ao : Option Addr) (cap : Nat) (l : List Pg), cs = [.slice ao l.length cap] ∧ PgsAt w ao l ∧ l.length ≤ 2513169434843 ∧ (∀ p ∈ l, p.gr ≤ 9223372036854775807) ∧ l.length + (lacesL l).length ≤ Rows.uptoBulk x.1 := by
  rcases open_slice Tryd.underlying22 h with ⟨hcs, hx0⟩ | ⟨a, len, cap, m, n, D, Pl, hcs, _, hl, hm, hmm, hd, hx⟩
  · exact ⟨none, 0, [], hcs, PgsAt.nil _ _, Nat.zero_le _, fun p hp => (by cases hp), Nat.zero_le _⟩
  · simp only [if_true] at hmm
    subst hmm
    rw [acellsP] at hx
    have hd1 : x.1 = DataW.slice (List.map D (List.range len)) (List.map (fun j => D (len + j)) (List.range (m - len))) := congrArg Prod.fst hd
    rw [hd1] at hw
    simp only [DataW.weights, Tryd.underlying22] at hw
    have hcap : m * 56 ≤ reachBytes := by
      have := hw _ (List.mem_cons_self)
      rw [abytesP] at this
      simp only [List.length_map, List.length_range] at this
      have e : len + (m - len) = m := by omega
      rwa [e] at this
    simp only [reachBytes] at hcap
    have hall : ∀ i, ∃ p : Pg, i < len → ∃ (ap : Option Addr) (ac : Nat), (∀ j v, (pgC p ap ac)[j]? = some v → w.cell? (a.add (i * 5 + j)) = some v) ∧ PgAt w p ap ac ∧ p.gr ≤ 9223372036854775807 ∧ p.la.length + 1 ≤ Rows.uptoBulk (D i) := fun i => by
      by_cases hi : i < len
      · obtain ⟨cs', h1, h2⟩ := hx i (by omega)
        have hwi : ∀ n ∈ (D i).weights Tryd.prog 49, n ≤ reachBytes := fun n hn => by
          apply hw
          refine List.mem_cons_of_mem _ ?_
          refine List.mem_append.2 (.inl ?_)
          exact weights_all Tryd.prog 49 _ (D i) (List.mem_map.2 ⟨i, List.mem_range.2 hi, rfl⟩) n hn
        obtain ⟨p, ap, ac, hcs', r1, r2, r3⟩ := open_pgC h2 hwi
        obtain ⟨_, hlen, hcell⟩ := World.cells?_some h1
        refine ⟨p, fun _ => ⟨ap, ac, fun j v hj => ?_, r1, r2, r3⟩⟩
        have hj5 : j < 5 := (List.getElem?_eq_some_iff.1 hj).1
        have := hcell j hj5
        rw [add_add, hcs', hj] at this
        exact this
      · exact ⟨Pg0, fun h => absurd h hi⟩
    obtain ⟨f, hf⟩ := Classical.axiomOfChoice hall
    have hlen : ((List.range len).map f).length = len := by simp
    refine ⟨some a, m, (List.range len).map f, by rw [hlen]; exact hcs, ⟨fun h0 => ?_⟩, by rw [hlen]; omega, fun p hp => ?_, ?_⟩
    · rw [hlen] at h0
      obtain ⟨ap, ac, hc0, _⟩ := hf 0 h0
      have g0 := hc0 0 _ rfl
      rw [Nat.zero_mul, Nat.zero_add] at g0
      obtain ⟨b, off, rfl⟩ := at_spot g0
      refine ⟨b, off, rfl, fun i p hi => ?_⟩
      have hil : i < len := by have := (List.getElem?_eq_some_iff.1 hi).1; rwa [hlen] at this
      have hfi : f i = p := by simp [hil] at hi; exact hi
      obtain ⟨ap, ac, hc, r1, _⟩ := hf i hil
      rw [hfi] at hc r1
      refine ⟨ap, ac, fun j v hj => ?_, r1⟩
      have := hc j v hj
      rw [Addr.add_mid, ← Nat.add_assoc] at this
      exact this
    · obtain ⟨i, hi, rfl⟩ := List.mem_map.1 hp
      obtain ⟨ap, ac, _, _, r, _⟩ := hf i (List.mem_range.1 hi)
      exact r
    · have hb := bulk_range D (fun i => (f i).la.length + 1) len (fun i hi => by obtain ⟨ap, ac, _, _, _, r⟩ := hf i hi; exact r)
      rw [hd1, hlen, laces_sumL, List.map_map]
      simp only [Rows.uptoBulk]
      have e : ∀ n : Nat, ((List.range n).map fun i => (f i).la.length + 1).sum = ((List.range n).map ((fun p => p.la.length) ∘ f)).sum + n := by
        intro n
        induction n with
        | zero => rfl
        | succ n ih => rw [List.range_succ, List.map_append, List.map_append, List.sum_append, List.sum_append, ih]; simp; omega
      have := e len
      omega
theorem str_len (s : ByteArray) : s.data.toList.length = s.size := by rw [Array.length_toList]; rfl
set_option maxRecDepth 20000 in
/-- Texts as an argument. -/
theorem open_strs {fuel : Nat} {cs : List Value} {x : DataW H × List MemPlace} (h : DataW.trod enc Tryd.prog w base (fun _ => true) held fuel 23 cs = some x) (hw : ∀ n ∈ x.1.weights Tryd.prog 23, n ≤ reachBytes) :
    ∃ (ao : Option Addr) (cap : Nat) (K : List ByteArray), cs = [.slice ao K.length cap] ∧ StrsAt w ao K ∧ K.length ≤ 8796093021952 ∧ K.length + (K.map bytesOf).flatten.length ≤ Rows.uptoBulk x.1 ∧ K.length ≤ cap := by
  rcases open_slice Tryd.underlying23 h with ⟨hcs, hx0⟩ | ⟨a, len, cap, m, n, D, Pl, hcs, _, hl, hm, hmm, hd, hx⟩
  · exact ⟨none, 0, [], hcs, StrsAt.nil _ _, Nat.zero_le _, Nat.zero_le _, Nat.zero_le _⟩
  · simp only [if_true] at hmm
    subst hmm
    rw [acells9] at hx
    have hd1 : x.1 = DataW.slice (List.map D (List.range len)) (List.map (fun j => D (len + j)) (List.range (m - len))) := congrArg Prod.fst hd
    rw [hd1] at hw
    simp only [DataW.weights, Tryd.underlying23] at hw
    have hcap : m * 16 ≤ reachBytes := by
      have := hw _ (List.mem_cons_self)
      rw [abytes9] at this
      simp only [List.length_map, List.length_range] at this
      have e : len + (m - len) = m := by omega
      rwa [e] at this
    simp only [reachBytes] at hcap
    have hall : ∀ i, ∃ t : ByteArray, i < len → w.cell? (a.add (i * 1)) = some (.string t) ∧ t.size + 1 ≤ Rows.uptoBulk (D i) := fun i => by
      by_cases hi : i < len
      · obtain ⟨cs', h1, h2⟩ := hx i (by omega)
        obtain ⟨s1, e1, f1, _⟩ := DataW.trod_string Tryd.underlying9 h2
        obtain ⟨_, hlen, hcell⟩ := World.cells?_some h1
        refine ⟨s1, fun _ => ⟨?_, ?_⟩⟩
        · have := hcell 0 (by omega)
          rw [add_add, e1] at this
          exact this
        · have e2 : D i = .lit (.string s1.data.toList) := congrArg Prod.fst f1
          rw [e2]
          simp only [Rows.uptoBulk, str_len]
          exact Nat.le_refl _
      · exact ⟨⟨#[]⟩, fun h => absurd h hi⟩
    obtain ⟨f, hf⟩ := Classical.axiomOfChoice hall
    have hlen : ((List.range len).map f).length = len := by simp
    refine ⟨some a, m, (List.range len).map f, by rw [hlen]; exact hcs, ⟨fun h0 => ?_⟩, by rw [hlen]; omega, ?_, by rw [hlen]; exact hl⟩
    · rw [hlen] at h0
      have g0 := (hf 0 h0).1
      rw [Nat.zero_mul] at g0
      obtain ⟨b, off, rfl⟩ := at_spot g0
      refine ⟨b, off, rfl, fun i t hi => ?_⟩
      have hil : i < len := by have := (List.getElem?_eq_some_iff.1 hi).1; rwa [hlen] at this
      have hfi : f i = t := by simp [hil] at hi; exact hi
      have hc := (hf i hil).1
      rw [hfi, Addr.add_mid, Nat.mul_one] at hc
      exact hc
    · have hb := bulk_range D (fun i => (f i).size + 1) len (fun i hi => (hf i hi).2)
      rw [hd1, hlen, List.length_flatten, List.map_map, List.map_map]
      simp only [Rows.uptoBulk]
      have e : ∀ n : Nat, ((List.range n).map fun i => (f i).size + 1).sum = ((List.range n).map ((List.length ∘ bytesOf) ∘ f)).sum + n := by
        intro n
        induction n with
        | zero => rfl
        | succ n ih => rw [List.range_succ, List.map_append, List.map_append, List.sum_append, List.sum_append, ih]; simp [bytesOf_length]; omega
      have := e len
      omega
end

end Go.Proofs.YtjkamannjgcmiaaDoor
