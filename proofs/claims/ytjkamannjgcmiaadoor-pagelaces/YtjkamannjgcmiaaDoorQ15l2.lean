/- Own text: the walk of PageLaces over what the program's calls do. -/
import Derived.Test.YtjkamannjgcmiaaDoorQ15l3
namespace Go.Proofs.YtjkamannjgcmiaaDoor
open Go.RowKit
set_option linter.unusedSimpArgs false
set_option linter.unusedVariables false

def mnX (x : Int) : Int := if 70000 < x then 70000 else x
structure IQ (w0 wx : World) (xs : List Int) (v : Value) : Prop where
  own : wx.ownsRow w0.heap.size 3 1 v xs.length (intsC xs)
  bl : Below w0.heap.size w0 wx
theorem IQ.low {w0 wx w' : World} {xs : List Int} {v : Value} (h : IQ w0 wx xs v) (hb : Below wx.heap.size wx w') : IQ w0 w' xs v := ⟨owns_below h.own hb, h.bl.trans (hb.mono h.bl.size)⟩
theorem IQ.push {w0 wx w' : World} {xs : List Int} {v v' : Value} {x : Int} (h : IQ w0 wx xs v) (ho : w'.ownsRow w0.heap.size 3 1 v' (xs.length + 1) (intsC xs ++ [.int .i64 x])) (hg : wx.grownBy w' v.ownBlock) : IQ w0 w' (xs ++ [x]) v' :=
  ⟨by rw [List.length_append, intsC_append]; exact ho, grown_to hg h.bl h.bl.size (fun k e => (h.own.lt k e).1)⟩
theorem mins_snoc (sizes : List Int) (i : Nat) (hi : i < sizes.length) : (sizes.take (i + 1)).map mnX = (sizes.take i).map mnX ++ [mnX (sizes.getD i 0)] := by
  rw [List.take_succ_eq_append_getElem hi, List.map_append, List.getD_eq_getElem?_getD, List.getElem?_eq_getElem hi]
  rfl
abbrev pgZ (p : List Int) : Pg := ⟨0, 0, 0, 0, p⟩
structure PR (w0 wx : World) (Q : List QP) (v : Value) : Prop where
  own : wx.ownsRow w0.heap.size 49 5 v Q.length (qcs Q)
  pg : ∀ q ∈ Q, PgAt w0 q.1 q.2.1 q.2.2
  bl : Below w0.heap.size w0 wx
theorem PR.low {w0 wx w' : World} {Q : List QP} {v : Value} (h : PR w0 wx Q v) (hb : Below wx.heap.size wx w') : PR w0 w' Q v := ⟨owns_below h.own hb, h.pg, h.bl.trans (hb.mono h.bl.size)⟩
theorem PR.push {w0 wx w' : World} {Q : List QP} {v v' : Value} {q : QP} (h : PR w0 wx Q v) (hq : PgAt w0 q.1 q.2.1 q.2.2) (ho : w'.ownsRow w0.heap.size 49 5 v' (Q.length + 1) (qcs Q ++ pgC q.1 q.2.1 q.2.2)) (hg : wx.grownBy w' v.ownBlock) : PR w0 w' (Q ++ [q]) v' :=
  ⟨by rw [List.length_append, qcs_snoc]; exact ho, fun x hx => by
    rcases List.mem_append.1 hx with hx | hx
    · exact h.pg x hx
    · rw [List.mem_singleton] at hx; rw [hx]; exact hq, grown_to hg h.bl h.bl.size (fun k e => (h.own.lt k e).1)⟩
theorem PR.pages {w0 wx : World} {Q : List QP} {v : Value} (h : PR w0 wx Q v) : ∃ ao cap, v = .slice ao Q.length cap ∧ PgsAt wx ao (Q.map Prod.fst) := by
  obtain ⟨ao, cap, e, _, hle, hno, hat⟩ := owns_shape h.own
  refine ⟨ao, cap, e, ⟨fun h0 => ?_⟩⟩
  rw [List.length_map] at h0
  cases ao with
  | none => have := (hno rfl).1; omega
  | some a =>
    obtain ⟨ea, _, _⟩ := hat a rfl
    have ho := h.own
    rw [e, ea] at ho
    refine ⟨a.block, 0, by rw [ea], fun i p hi => ?_⟩
    rw [List.getElem?_map] at hi
    cases hq : Q[i]? with
    | none => rw [hq] at hi; cases hi
    | some q =>
      rw [hq] at hi
      injection hi with hi
      subst hi
      have hil := (List.getElem?_eq_some_iff.1 hq).1
      refine ⟨q.2.1, q.2.2, fun j v hj => ?_, (h.pg q (List.mem_of_getElem? hq)).below h.bl⟩
      have hj5 := (List.getElem?_eq_some_iff.1 hj).1
      rw [Nat.zero_add, ho.cellAt (i * 5 + j) (by simp at hj5; omega)]
      exact qcs_get Q i q hq j v hj
/-- What Packets tells of the pages of Lace. -/
theorem pkt_lace (m : Nat) (hm : 1 ≤ m) (xs : List Int) : pktL (lacesL ((lacP m (szN xs)).map pgZ)) = (szN xs).map (fun x : Nat => (x : Int)) ∧ pktE (lacesL ((lacP m (szN xs)).map pgZ)) = 0 := by
  obtain ⟨h1, h2, h3⟩ := siz_all (szN xs)
  have e : lacesL ((lacP m (szN xs)).map pgZ) = (szN xs).flatMap lcs := by
    rw [← (lacP_ok hm (szN xs)).2]
    exact lacesL_of _
  have hok : pktOk (lacesL ((lacP m (szN xs)).map pgZ)) := by rw [e]; exact ⟨h3, h2⟩
  refine ⟨?_, if_pos hok⟩
  unfold pktL
  rw [if_pos hok, e, h1]
theorem flatO_le : ∀ (O : List (List Int)), (∀ p ∈ O, 1 ≤ p.length) → O.length ≤ O.flatten.length
  | [], _ => Nat.le_refl _
  | p :: t, h => by
    have h1 := h p (by simp)
    have h2 := flatO_le t (fun q hq => h q (by simp [hq]))
    rw [List.length_cons, List.flatten_cons, List.length_append]
    omega
theorem lcs_flat : ∀ (l : List Nat), (∀ x ∈ l, x ≤ 70000) → (l.flatMap lcs).length ≤ 276 * l.length
  | [], _ => Nat.le_refl _
  | x :: t, h => by
    have h1 := h x (by simp)
    have h2 := lcs_flat t (fun q hq => h q (by simp [hq]))
    have h3 : (lcs x).length = x / 255 + 1 := by unfold lcs; simp
    rw [List.flatMap_cons, List.length_append, List.length_cons]
    omega
theorem lac_len (m : Nat) (hm : 1 ≤ m) (xs : List Int) (hn : xs.length ≤ 60) (hz : ∀ x ∈ xs, x ≤ 70000) : (lacP m (szN xs)).length ≤ 20000 ∧ (lacesL ((lacP m (szN xs)).map pgZ)).length ≤ 20000 := by
  obtain ⟨h1, h2⟩ := lacP_ok hm (szN xs)
  have e : lacesL ((lacP m (szN xs)).map pgZ) = (lacP m (szN xs)).flatten := lacesL_of _
  have h3 := flatO_le _ (fun p hp => (h1 p hp).1)
  have h4 := lcs_flat (szN xs) (fun x hx => by
    obtain ⟨y, hy, rfl⟩ := List.mem_map.1 hx
    have := hz y hy
    omega)
  have h5 : (szN xs).length = xs.length := by unfold szN; rw [List.length_map]
  rw [e, h2] at *
  omega
theorem szn_get (xs : List Int) (i : Nat) (hi : i < xs.length) : ((szN xs).map (fun x : Nat => (x : Int))).getD i 0 = (if 0 < xs.getD i 0 then xs.getD i 0 else 0) := by
  unfold szN
  rw [List.map_map, List.getD_eq_getElem?_getD, List.getElem?_map, List.getD_eq_getElem?_getD, List.getElem?_eq_getElem hi]
  show ((xs[i].toNat : Nat) : Int) = if 0 < xs[i] then xs[i] else 0
  split <;> omega

set_option maxRecDepth 20000 in
set_option maxHeartbeats 6400000 in
theorem laces15 {L : World → Prop} (D : Does15 L) (sizes : List Int) (a : Option Addr) (c : Nat) (mo : Int) (w : World) (hL : L w) (hl : IntsAt w a sizes) : Calls Tryd.prog 6 #[.slice a sizes.length c, .int .i64 mo] w fun e w' => e = .returned (.bool true) ∧ Below w.heap.size w w' := by
  have KA : Hid (∀ wx, Below w.heap.size w wx → Calls Tryd.prog 12 #[] wx fun e w' => e = .returned (.bool true) ∧ Below wx.heap.size wx w') := fun wx hb => awake15 D wx (D.keep _ _ hL hb)
  have KL : Hid (∀ wx, Below w.heap.size w wx → L wx) := fun wx hb => D.keep _ _ hL hb
  have HD := hid D
  have HL := hid hl
  have hn0 := hl.len
  obtain ⟨iI, hI0, hI1, hI2, hI3⟩ := info_parts5 info3
  have HII : Hid (Tryd.prog.info? 3 = some iI ∧ iI.zero = some (.int .i64 0) ∧ iI.size = 1 ∧ iI.bytes = 8) := ⟨hI0, hI1, hI2, hI3⟩
  obtain ⟨iP, hP0, hP1, hP2, hP3⟩ := info_parts5 info_page4
  have HIP : Hid (Tryd.prog.info? 49 = some iP ∧ iP.zero = some (.agg zeroP) ∧ iP.size = 5 ∧ iP.bytes = 56) := ⟨hP0, hP1, hP2, hP3⟩
  have HQ0 : Hid (IQ w w [] (.slice none 0 0)) := ⟨World.ownsRow_nil _ _ _ _, Below.refl _ _⟩
  clear D hL hl hI0 hI1 hI2 hI3 hP0 hP1 hP2 hP3
  go_enter Tryd.func6, Tryd.ntmps6
  go_wp2_with fail
  go_loopw [5, 6] (fun s5 s6 wr => ∃ (i : Nat) (xs : List Int), i ≤ sizes.length ∧ i ≤ 60 ∧ s6 = .int .i64 (i : Int) ∧ IQ w wr xs s5 ∧ xs = (sizes.take i).map mnX) (fun _ s6 _ => 60 - (intOf s6).toNat)
  case atStart => exact ⟨0, [], Nat.zero_le _, Nat.zero_le _, rfl, HQ0.out, rfl⟩
  case round =>
    clear HQ0
    obtain ⟨i, xs, hi, hi60, rfl, hq, hxe⟩ := hrel
    obtain ⟨ao, cap, ev⟩ := owns_sl hq.own
    subst ev
    have HQ := hid hq
    have HXE := hid hxe
    have hx60 : xs.length ≤ 60 := by rw [hxe, List.length_map, List.length_take]; omega
    clear hq hxe
    by_cases hlt : i < sizes.length
    · by_cases h60 : i < 60
      · obtain ⟨b1, o1, rfl, q1⟩ := HL.out.at i hlt
        have HLO := hid q1
        have x1 := q1 wr HQ.out.bl
        have hrg := HL.out.rng i
        have HMS := hid (mins_snoc sizes i hlt)
        clear q1
        generalize sizes.getD i 0 = x at *
        go_wp2_with (at_builtin; go_loud (refine wpList_append_row _ rfl (.tmp 23) (.tmp 29) 37 rfl w.heap.size 3 iI (.int .i64 0) 1 8 Tryd.underlying37 HII.out.1 HII.out.2.1 HII.out.2.2.1 HII.out.2.2.2 rfl (by decide) (.slice ao xs.length cap) xs.length _ rfl (HQ.out.low (below_new _ _)).own ⟨wr.heap.size, 0, none⟩ 1 1 [.int .i64 (if 70000 < x then 70000 else x)] rfl rfl (one_new wr _ _) (by simp [Value.oneCell']) (by simp only [maxLen]; omega) (by omega) (HQ.out.low (below_new _ _)).bl.size ?_); intro v7 w7 ho7 hg7 hx7)
        have HX7 : Hid (IQ w w7 (xs ++ [(if 70000 < x then 70000 else x)]) v7) := (HQ.out.low (below_new _ _)).push ho7.out hg7.out
        clear HQ ho7 hg7 hx7 HLO
        try go_wp2_with fail
        go_roundw
        case rel => exact ⟨i + 1, xs ++ [(if 70000 < x then 70000 else x)], by omega, by omega, by go_num, HX7.out, by rw [HMS.out, ← HXE.out]; rfl⟩
        case measure =>
          show 60 - ((i : Int) + 1).toNat < 60 - i
          omega
      · skip
        have hxz : ∀ x ∈ xs, x ≤ 70000 := fun x hx => by
          rw [HXE.out] at hx
          obtain ⟨y, _, rfl⟩ := List.mem_map.1 hx
          unfold mnX
          split <;> omega
        have hxn : ∀ x ∈ xs, -9223372036854775808 ≤ x ∧ x ≤ 9223372036854775807 := fun x hx => by
          have h1 := hxz x hx
          rw [HXE.out] at hx
          obtain ⟨y, hy, rfl⟩ := List.mem_map.1 hx
          have h2 := HL.out.num y (List.mem_of_mem_take hy)
          unfold mnX at h1 ⊢
          split <;> omega
        obtain ⟨ao2, cap2, ev, hia, hcc, _⟩ := own_ints HQ.out.own (by omega) hxn
        injection ev with ev1 ev2 ev3
        subst ev1 ev3
        have H0 : Hid (Below w.heap.size w wr) := HQ.out.bl
        have kl := HD.out.lac xs ao cap mo wr hia hcc hx60 hxz
        have KXL : Hid (∀ wx, Below wr.heap.size wr wx → _) := fun wx hb => xlace_any xs ao cap mo wx (hia.below hb) hx60 hxz
        have HIA := hid hia
        obtain ⟨m, hm⟩ : ∃ m, m = mostN mo := ⟨_, rfl⟩
        have hmb := mostN_b mo
        rw [← hm] at hmb kl KXL
        have HM := hid hm
        obtain ⟨hO1, hO2⟩ := lac_len m hmb.1 xs hx60 hxz
        have HPK := hid (pkt_lace m hmb.1 xs)
        have HOK := hid (lacP_ok hmb.1 (szN xs)).1
        have HSG := hid (szn_get xs)
        have HSL : Hid ((szN xs).length = xs.length) := by show _ = _; unfold szN; rw [List.length_map]
        generalize lacP m (szN xs) = O at *
        clear HXE HQ hm hia hxz hxn HII HL
        go_wp2_with fail
        refine kl.mono ?_
        rintro e w1 ⟨⟨xo, xc, rfl, hr1, _, _⟩, hb1⟩
        have H1 : Hid (Below w.heap.size w w1 ∧ RowsAt w1 xo O ∧ IntsAt w1 ao xs) := ⟨below_on H0.out H0.out.size hb1, hr1, HIA.out.below hb1⟩
        have kx := KXL.out w1 hb1
        clear kl hr1 hb1 KXL HIA
        go_wp2_with fail
        refine kx.mono ?_
        rintro e w2 ⟨⟨xo2, xc2, rfl, hr2, _, _⟩, hb2⟩
        have H2 : Hid (Below w.heap.size w w2 ∧ RowsAt w2 xo O ∧ IntsAt w2 ao xs) := ⟨below_on H1.out.1 H1.out.1.size hb2, H1.out.2.1.below hb2, H1.out.2.2.below hb2⟩
        have ks := planes_same O xo xo2 xc xc2 w2 H2.out.2.1 hr2
        clear kx hr2 hb2 H1 H0
        go_wp2_with fail
        refine ks.mono ?_
        rintro e w3 ⟨rfl, hb3⟩
        have H3 : Hid (Below w.heap.size w w3 ∧ RowsAt w3 xo O ∧ IntsAt w3 ao xs) := ⟨below_on H2.out.1 H2.out.1.size hb3, H2.out.2.1.below hb3, H2.out.2.2.below hb3⟩
        clear ks hb3 H2
        go_upto_region 9 with fail
        go_cut [1] from 40 to 42 (fun s1 wx => s1 = .int .i64 (m : Int) ∧ wx = w3)
        case first =>
          by_cases h1 : mo < 1
          · have HE : Hid ((m : Int) = 1) := by show _ = _; rw [HM.out]; unfold mostN; rw [if_pos h1]; rfl
            have h2 : mo ≤ 255 := by omega
            go_wp2_with fail
            all_goals go_meet
            all_goals exact ⟨by have := HE.out; congr 1; omega, rfl⟩
          · by_cases h2 : 255 < mo
            · have HE : Hid ((m : Int) = 255) := by show _ = _; rw [HM.out]; unfold mostN; rw [if_neg h1, if_pos h2]; rfl
              go_wp2_with fail
              all_goals go_meet
              all_goals exact ⟨by have := HE.out; congr 1; omega, rfl⟩
            · have HE : Hid ((m : Int) = mo) := by show _ = _; rw [HM.out]; unfold mostN; rw [if_neg h1, if_neg h2]; omega
              have h3 : 1 ≤ mo := by omega
              have h4 : mo ≤ 255 := by omega
              go_wp2_with fail
              all_goals go_meet
              all_goals exact ⟨by have := HE.out; congr 1; omega, rfl⟩
        case rest =>
          obtain ⟨rfl, hw⟩ := hcut
          subst hw
          rename World => W3
          have HP0 : Hid (PR W3 W3 [] (.slice none 0 0)) := ⟨World.ownsRow_nil _ _ _ _, fun q hq => by simp at hq, Below.refl _ _⟩
          go_wp2_with fail
          go_loopw [8, 9] (fun s8 s9 wx => ∃ (j : Nat) (Q : List QP), j ≤ O.length ∧ s9 = .int .i64 (j : Int) ∧ PR W3 wx Q s8 ∧ Q.map Prod.fst = (O.take j).map pgZ) (fun _ s9 _ => O.length - (intOf s9).toNat)
          case atStart => exact ⟨0, [], Nat.zero_le _, rfl, HP0.out, rfl⟩
          case round =>
            clear HP0
            obtain ⟨j, Q, hj, rfl, hq, hqe⟩ := hrel
            obtain ⟨po, pc, ev⟩ := owns_sl hq.own
            subst ev
            have HQ := hid hq
            have HQE := hid hqe
            have hql : Q.length ≤ 20000 := by
              have := congrArg List.length hqe
              rw [List.length_map, List.length_map, List.length_take] at this
              omega
            clear hq hqe
            by_cases hlt2 : j < O.length
            · obtain ⟨b, off, ea, hc⟩ := H3.out.2.1.lies (by omega)
              subst ea
              obtain ⟨la, lc, z1, z2, z3, z4⟩ := hc j hlt2
              have x1 : wr.cell? ⟨b, off + j, none⟩ = some (.slice la (O.getD j []).length lc) := by rw [World.cell?_of_block (w := W3) (HQ.out.bl.block _ (lt_cell z1))]; exact z1
              have hmem : O.getD j [] ∈ O := by rw [List.getD_eq_getElem?_getD, List.getElem?_eq_getElem hlt2]; exact List.getElem_mem hlt2
              obtain ⟨hP1, hP2⟩ := HOK.out _ hmem
              have HPG : Hid (PgAt W3 (pgZ (O.getD j [])) la lc) := ⟨z4, z2, z3⟩
              have HTK : Hid ((O.take (j + 1)).map pgZ = (O.take j).map pgZ ++ [pgZ (O.getD j [])]) := by
                show _ = _
                rw [List.take_succ_eq_append_getElem hlt2, List.map_append, List.getD_eq_getElem?_getD, List.getElem?_eq_getElem hlt2]
                rfl
              clear hc z1 z2 z3 z4 hmem
              generalize O.getD j [] = P at *
              go_wp2_with (at_builtin; go_loud (refine wpList_append_row _ rfl (.tmp 64) (.tmp 70) 22 rfl W3.heap.size 49 iP (.agg zeroP) 5 56 Tryd.underlying22 HIP.out.1 HIP.out.2.1 HIP.out.2.2.1 HIP.out.2.2.2 rfl (by decide) (.slice po Q.length pc) Q.length _ rfl (HQ.out.low (below_new _ _)).own ⟨wr.heap.size, 0, none⟩ 1 1 (pgC (pgZ P) la lc) rfl rfl (pg_new wr (pgZ P) la lc) (by simp [Value.oneCell']) (by simp only [maxLen]; omega) (by omega) (HQ.out.low (below_new _ _)).bl.size ?_); intro v7 w7 ho7 hg7 hx7)
              have HX7 : Hid (PR W3 w7 (Q ++ [(pgZ P, la, lc)]) v7) := (HQ.out.low (below_new _ _)).push (q := (pgZ P, la, lc)) HPG.out ho7.out hg7.out
              clear HQ ho7 hg7 hx7
              try go_wp2_with fail
              go_roundw
              case rel => exact ⟨j + 1, _, by omega, by go_num, HX7.out, by rw [List.map_append, HQE.out, HTK.out]; rfl⟩
              case measure =>
                show O.length - ((j : Int) + 1).toNat < O.length - j
                omega
            · obtain ⟨po2, pc2, ev, hpg⟩ := HQ.out.pages
              injection ev with ev1 ev2 ev3
              subst ev1 ev3
              have hqO : Q.map Prod.fst = O.map pgZ := by rw [HQE.out, List.take_of_length_le (by omega)]
              have hQl : (O.map pgZ).length = Q.length := by rw [← hqO, List.length_map]
              rw [hqO] at hpg
              have HB : Hid (Below w.heap.size w wr ∧ IntsAt wr ao xs) := ⟨below_on H3.out.1 H3.out.1.size HQ.out.bl, H3.out.2.2.below HQ.out.bl⟩
              have kp := HD.out.pkt (O.map pgZ) po pc wr hpg (by rw [List.length_map]; omega) (by omega)
              rw [HPK.out.1, HPK.out.2, hQl] at kp
              simp only [List.length_map, HSL.out] at kp
              have HXLn : Hid (((szN xs).map (fun x : Nat => (x : Int))).length = xs.length) := by show _ = _; rw [List.length_map, HSL.out]
              clear hpg hqO hQl HQ HQE H3 HOK HPK hO1 hO2 HM HSL
              generalize (szN xs).map (fun x : Nat => (x : Int)) = X at *
              go_wp2_with fail
              refine kp.mono ?_
              rintro e w5 ⟨⟨go, gc, rfl, hig, _, _⟩, hb5⟩
              have H5 : Hid (Below w.heap.size w w5 ∧ IntsAt w5 go X ∧ IntsAt w5 ao xs) := ⟨below_on HB.out.1 HB.out.1.size hb5, hig, HB.out.2.below hb5⟩
              clear kp hig hb5 HB
              go_wp2_with fail
              go_loopw [12] (fun s12 wy => ∃ k : Nat, k ≤ xs.length ∧ s12 = .int .i64 (k : Int) ∧ Below w5.heap.size w5 wy) (fun s12 _ => xs.length - (intOf s12).toNat)
              case atStart => exact ⟨0, Nat.zero_le _, rfl, Below.refl _ _⟩
              case round =>
                obtain ⟨k, hk, rfl, hby⟩ := hrel
                rename World => wy
                have HBY := hid hby
                have HY : Hid (Below w.heap.size w wy) := below_on H5.out.1 H5.out.1.size hby
                by_cases hk3 : k < xs.length
                · obtain ⟨b1, o1, rfl, q1⟩ := H5.out.2.1.at k (by rw [HXLn.out]; exact hk3)
                  obtain ⟨b2, o2, rfl, q2⟩ := H5.out.2.2.at k hk3
                  have r1 := q1 wy hby
                  have r2 := q2 wy hby
                  have r1' : wy.drew.cell? ⟨b1, o1 + k, none⟩ = some (.int .i64 (X.getD k 0)) := r1
                  rw [HSG.out k hk3] at r1
                  clear q1 q2 hby
                  generalize xs.getD k 0 = x at *
                  clear r1'
                  by_cases hx0 : 0 < x
                  · rw [if_pos hx0] at r1
                    go_wp2_with fail
                    go_quiet (fail)
                    go_wp2_with fail
                    go_roundw
                    case rel => exact ⟨k + 1, by omega, by go_num, Below.drewN HBY.out _⟩
                    case measure =>
                      show xs.length - ((k : Int) + 1).toNat < xs.length - k
                      omega
                  · rw [if_neg hx0] at r1
                    have hx1 : x ≤ 0 := by omega
                    go_wp2_with fail
                    go_quiet (fail)
                    go_wp2_with fail
                    go_roundw
                    case rel => exact ⟨k + 1, by omega, by go_num, Below.drewN HBY.out _⟩
                    case measure =>
                      show xs.length - ((k : Int) + 1).toNat < xs.length - k
                      omega
                · clear hby HBY
                  go_wp2_with fail
                  refine (KA.out wy HY.out).mono ?_
                  rintro e w9 ⟨rfl, hb9⟩
                  have H9 : Hid (Below w.heap.size w w9) := below_on HY.out HY.out.size hb9
                  clear hb9 KA
                  go_wp2_with fail
                  go_ret
                  exact ⟨rfl, H9.out⟩

    · have hxz : ∀ x ∈ xs, x ≤ 70000 := fun x hx => by
        rw [HXE.out] at hx
        obtain ⟨y, _, rfl⟩ := List.mem_map.1 hx
        unfold mnX
        split <;> omega
      have hxn : ∀ x ∈ xs, -9223372036854775808 ≤ x ∧ x ≤ 9223372036854775807 := fun x hx => by
        have h1 := hxz x hx
        rw [HXE.out] at hx
        obtain ⟨y, hy, rfl⟩ := List.mem_map.1 hx
        have h2 := HL.out.num y (List.mem_of_mem_take hy)
        unfold mnX at h1 ⊢
        split <;> omega
      obtain ⟨ao2, cap2, ev, hia, hcc, _⟩ := own_ints HQ.out.own (by omega) hxn
      injection ev with ev1 ev2 ev3
      subst ev1 ev3
      have H0 : Hid (Below w.heap.size w wr) := HQ.out.bl
      have kl := HD.out.lac xs ao cap mo wr hia hcc hx60 hxz
      have KXL : Hid (∀ wx, Below wr.heap.size wr wx → _) := fun wx hb => xlace_any xs ao cap mo wx (hia.below hb) hx60 hxz
      have HIA := hid hia
      obtain ⟨m, hm⟩ : ∃ m, m = mostN mo := ⟨_, rfl⟩
      have hmb := mostN_b mo
      rw [← hm] at hmb kl KXL
      have HM := hid hm
      obtain ⟨hO1, hO2⟩ := lac_len m hmb.1 xs hx60 hxz
      have HPK := hid (pkt_lace m hmb.1 xs)
      have HOK := hid (lacP_ok hmb.1 (szN xs)).1
      have HSG := hid (szn_get xs)
      have HSL : Hid ((szN xs).length = xs.length) := by show _ = _; unfold szN; rw [List.length_map]
      generalize lacP m (szN xs) = O at *
      clear HXE HQ hm hia hxz hxn HII HL
      go_wp2_with fail
      refine kl.mono ?_
      rintro e w1 ⟨⟨xo, xc, rfl, hr1, _, _⟩, hb1⟩
      have H1 : Hid (Below w.heap.size w w1 ∧ RowsAt w1 xo O ∧ IntsAt w1 ao xs) := ⟨below_on H0.out H0.out.size hb1, hr1, HIA.out.below hb1⟩
      have kx := KXL.out w1 hb1
      clear kl hr1 hb1 KXL HIA
      go_wp2_with fail
      refine kx.mono ?_
      rintro e w2 ⟨⟨xo2, xc2, rfl, hr2, _, _⟩, hb2⟩
      have H2 : Hid (Below w.heap.size w w2 ∧ RowsAt w2 xo O ∧ IntsAt w2 ao xs) := ⟨below_on H1.out.1 H1.out.1.size hb2, H1.out.2.1.below hb2, H1.out.2.2.below hb2⟩
      have ks := planes_same O xo xo2 xc xc2 w2 H2.out.2.1 hr2
      clear kx hr2 hb2 H1 H0
      go_wp2_with fail
      refine ks.mono ?_
      rintro e w3 ⟨rfl, hb3⟩
      have H3 : Hid (Below w.heap.size w w3 ∧ RowsAt w3 xo O ∧ IntsAt w3 ao xs) := ⟨below_on H2.out.1 H2.out.1.size hb3, H2.out.2.1.below hb3, H2.out.2.2.below hb3⟩
      clear ks hb3 H2
      go_upto_region 9 with fail
      go_cut [1] from 40 to 42 (fun s1 wx => s1 = .int .i64 (m : Int) ∧ wx = w3)
      case first =>
        by_cases h1 : mo < 1
        · have HE : Hid ((m : Int) = 1) := by show _ = _; rw [HM.out]; unfold mostN; rw [if_pos h1]; rfl
          have h2 : mo ≤ 255 := by omega
          go_wp2_with fail
          all_goals go_meet
          all_goals exact ⟨by have := HE.out; congr 1; omega, rfl⟩
        · by_cases h2 : 255 < mo
          · have HE : Hid ((m : Int) = 255) := by show _ = _; rw [HM.out]; unfold mostN; rw [if_neg h1, if_pos h2]; rfl
            go_wp2_with fail
            all_goals go_meet
            all_goals exact ⟨by have := HE.out; congr 1; omega, rfl⟩
          · have HE : Hid ((m : Int) = mo) := by show _ = _; rw [HM.out]; unfold mostN; rw [if_neg h1, if_neg h2]; omega
            have h3 : 1 ≤ mo := by omega
            have h4 : mo ≤ 255 := by omega
            go_wp2_with fail
            all_goals go_meet
            all_goals exact ⟨by have := HE.out; congr 1; omega, rfl⟩
      case rest =>
        obtain ⟨rfl, hw⟩ := hcut
        subst hw
        rename World => W3
        have HP0 : Hid (PR W3 W3 [] (.slice none 0 0)) := ⟨World.ownsRow_nil _ _ _ _, fun q hq => by simp at hq, Below.refl _ _⟩
        go_wp2_with fail
        go_loopw [8, 9] (fun s8 s9 wx => ∃ (j : Nat) (Q : List QP), j ≤ O.length ∧ s9 = .int .i64 (j : Int) ∧ PR W3 wx Q s8 ∧ Q.map Prod.fst = (O.take j).map pgZ) (fun _ s9 _ => O.length - (intOf s9).toNat)
        case atStart => exact ⟨0, [], Nat.zero_le _, rfl, HP0.out, rfl⟩
        case round =>
          clear HP0
          obtain ⟨j, Q, hj, rfl, hq, hqe⟩ := hrel
          obtain ⟨po, pc, ev⟩ := owns_sl hq.own
          subst ev
          have HQ := hid hq
          have HQE := hid hqe
          have hql : Q.length ≤ 20000 := by
            have := congrArg List.length hqe
            rw [List.length_map, List.length_map, List.length_take] at this
            omega
          clear hq hqe
          by_cases hlt2 : j < O.length
          · obtain ⟨b, off, ea, hc⟩ := H3.out.2.1.lies (by omega)
            subst ea
            obtain ⟨la, lc, z1, z2, z3, z4⟩ := hc j hlt2
            have x1 : wr.cell? ⟨b, off + j, none⟩ = some (.slice la (O.getD j []).length lc) := by rw [World.cell?_of_block (w := W3) (HQ.out.bl.block _ (lt_cell z1))]; exact z1
            have hmem : O.getD j [] ∈ O := by rw [List.getD_eq_getElem?_getD, List.getElem?_eq_getElem hlt2]; exact List.getElem_mem hlt2
            obtain ⟨hP1, hP2⟩ := HOK.out _ hmem
            have HPG : Hid (PgAt W3 (pgZ (O.getD j [])) la lc) := ⟨z4, z2, z3⟩
            have HTK : Hid ((O.take (j + 1)).map pgZ = (O.take j).map pgZ ++ [pgZ (O.getD j [])]) := by
              show _ = _
              rw [List.take_succ_eq_append_getElem hlt2, List.map_append, List.getD_eq_getElem?_getD, List.getElem?_eq_getElem hlt2]
              rfl
            clear hc z1 z2 z3 z4 hmem
            generalize O.getD j [] = P at *
            go_wp2_with (at_builtin; go_loud (refine wpList_append_row _ rfl (.tmp 64) (.tmp 70) 22 rfl W3.heap.size 49 iP (.agg zeroP) 5 56 Tryd.underlying22 HIP.out.1 HIP.out.2.1 HIP.out.2.2.1 HIP.out.2.2.2 rfl (by decide) (.slice po Q.length pc) Q.length _ rfl (HQ.out.low (below_new _ _)).own ⟨wr.heap.size, 0, none⟩ 1 1 (pgC (pgZ P) la lc) rfl rfl (pg_new wr (pgZ P) la lc) (by simp [Value.oneCell']) (by simp only [maxLen]; omega) (by omega) (HQ.out.low (below_new _ _)).bl.size ?_); intro v7 w7 ho7 hg7 hx7)
            have HX7 : Hid (PR W3 w7 (Q ++ [(pgZ P, la, lc)]) v7) := (HQ.out.low (below_new _ _)).push (q := (pgZ P, la, lc)) HPG.out ho7.out hg7.out
            clear HQ ho7 hg7 hx7
            try go_wp2_with fail
            go_roundw
            case rel => exact ⟨j + 1, _, by omega, by go_num, HX7.out, by rw [List.map_append, HQE.out, HTK.out]; rfl⟩
            case measure =>
              show O.length - ((j : Int) + 1).toNat < O.length - j
              omega
          · obtain ⟨po2, pc2, ev, hpg⟩ := HQ.out.pages
            injection ev with ev1 ev2 ev3
            subst ev1 ev3
            have hqO : Q.map Prod.fst = O.map pgZ := by rw [HQE.out, List.take_of_length_le (by omega)]
            have hQl : (O.map pgZ).length = Q.length := by rw [← hqO, List.length_map]
            rw [hqO] at hpg
            have HB : Hid (Below w.heap.size w wr ∧ IntsAt wr ao xs) := ⟨below_on H3.out.1 H3.out.1.size HQ.out.bl, H3.out.2.2.below HQ.out.bl⟩
            have kp := HD.out.pkt (O.map pgZ) po pc wr hpg (by rw [List.length_map]; omega) (by omega)
            rw [HPK.out.1, HPK.out.2, hQl] at kp
            simp only [List.length_map, HSL.out] at kp
            have HXLn : Hid (((szN xs).map (fun x : Nat => (x : Int))).length = xs.length) := by show _ = _; rw [List.length_map, HSL.out]
            clear hpg hqO hQl HQ HQE H3 HOK HPK hO1 hO2 HM HSL
            generalize (szN xs).map (fun x : Nat => (x : Int)) = X at *
            go_wp2_with fail
            refine kp.mono ?_
            rintro e w5 ⟨⟨go, gc, rfl, hig, _, _⟩, hb5⟩
            have H5 : Hid (Below w.heap.size w w5 ∧ IntsAt w5 go X ∧ IntsAt w5 ao xs) := ⟨below_on HB.out.1 HB.out.1.size hb5, hig, HB.out.2.below hb5⟩
            clear kp hig hb5 HB
            go_wp2_with fail
            go_loopw [12] (fun s12 wy => ∃ k : Nat, k ≤ xs.length ∧ s12 = .int .i64 (k : Int) ∧ Below w5.heap.size w5 wy) (fun s12 _ => xs.length - (intOf s12).toNat)
            case atStart => exact ⟨0, Nat.zero_le _, rfl, Below.refl _ _⟩
            case round =>
              obtain ⟨k, hk, rfl, hby⟩ := hrel
              rename World => wy
              have HBY := hid hby
              have HY : Hid (Below w.heap.size w wy) := below_on H5.out.1 H5.out.1.size hby
              by_cases hk3 : k < xs.length
              · obtain ⟨b1, o1, rfl, q1⟩ := H5.out.2.1.at k (by rw [HXLn.out]; exact hk3)
                obtain ⟨b2, o2, rfl, q2⟩ := H5.out.2.2.at k hk3
                have r1 := q1 wy hby
                have r2 := q2 wy hby
                have r1' : wy.drew.cell? ⟨b1, o1 + k, none⟩ = some (.int .i64 (X.getD k 0)) := r1
                rw [HSG.out k hk3] at r1
                clear q1 q2 hby
                generalize xs.getD k 0 = x at *
                clear r1'
                by_cases hx0 : 0 < x
                · rw [if_pos hx0] at r1
                  go_wp2_with fail
                  go_quiet (fail)
                  go_wp2_with fail
                  go_roundw
                  case rel => exact ⟨k + 1, by omega, by go_num, Below.drewN HBY.out _⟩
                  case measure =>
                    show xs.length - ((k : Int) + 1).toNat < xs.length - k
                    omega
                · rw [if_neg hx0] at r1
                  have hx1 : x ≤ 0 := by omega
                  go_wp2_with fail
                  go_quiet (fail)
                  go_wp2_with fail
                  go_roundw
                  case rel => exact ⟨k + 1, by omega, by go_num, Below.drewN HBY.out _⟩
                  case measure =>
                    show xs.length - ((k : Int) + 1).toNat < xs.length - k
                    omega
              · clear hby HBY
                go_wp2_with fail
                refine (KA.out wy HY.out).mono ?_
                rintro e w9 ⟨rfl, hb9⟩
                have H9 : Hid (Below w.heap.size w w9) := below_on HY.out HY.out.size hb9
                clear hb9 KA
                go_wp2_with fail
                go_ret
                exact ⟨rfl, H9.out⟩

end Go.Proofs.YtjkamannjgcmiaaDoor
