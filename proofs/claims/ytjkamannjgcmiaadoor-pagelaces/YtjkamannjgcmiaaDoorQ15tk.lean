/- Own text: the walk of take. -/
import Derived.Test.YtjkamannjgcmiaaDoorG30x
namespace Go.Proofs.YtjkamannjgcmiaaDoor
open Go.RowKit
set_option linter.unusedSimpArgs false
set_option linter.unusedVariables false

def TkP (B q : Nat) (W : World) (L : List SP) (op : Bool) (y : SP) (e : Ending) (w' : World) : Prop := (tkE (pgsOf L) op y.1.p ≠ 0 → e = .returned (.int .i64 (tkE (pgsOf L) op y.1.p)) ∧ Below W.heap.size W w') ∧ (tkE (pgsOf L) op y.1.p = 0 → e = .returned (.int .i64 0) ∧ ∃ v', RW B q w' (L ++ [y]) v' (opE op y.1.p.la) ∧ KeepsOthers W w' ∧ ∀ n0, n0 ≤ q → n0 ≤ W.heap.size → Below n0 W w')
theorem TkP.err {B q : Nat} {W w' : World} {L : List SP} {op : Bool} {y : SP} {k : Int} (h : tkE (pgsOf L) op y.1.p = k) (hk : k ≠ 0) (hB : Below W.heap.size W w') : TkP B q W L op y (.returned (.int .i64 k)) w' :=
  ⟨fun _ => ⟨by rw [h], hB⟩, fun e => absurd (h.symm.trans e) hk⟩
theorem bit2 (fl : Int) : (fl / 2 % 2 = 1) = (fl / ((2 : Nat) : Int) % 2 = 1) := rfl
theorem pgsOf_len (L : List SP) : (pgsOf L).length = L.length := by unfold pgsOf; rw [List.length_map]
theorem dec_eq {p q : Prop} [Decidable p] [Decidable q] (h : p ↔ q) : decide p = decide q := by
  by_cases hp : p
  · rw [decide_eq_true hp, decide_eq_true (h.1 hp)]
  · rw [decide_eq_false hp, decide_eq_false (fun x => hp (h.2 x))]
set_option maxRecDepth 20000 in
set_option maxHeartbeats 3200000 in
theorem j_take (B q : Nat) (W : World) (L : List SP) (v : Value) (op : Bool) (y : SP) (h : RW B q W L v op) (hy : SAt q W y v) (hn : L.length ≤ 65536) : Calls Tryd.prog 34 #[.pointer (some ⟨q, 0, none⟩), shV y.1 y.2.1 y.2.2] W fun e w' => TkP B q W L op y e w' := by
  obtain ⟨av, cv, ev⟩ := owns_sl h.own
  subst ev
  have HR := hid h
  have HY := hid hy
  obtain ⟨⟨⟨fl, se, sq, gr, la⟩, bd⟩, ao, c⟩ := y
  have hqW := h.bx.lt
  have hvb := fun k hk => h.blk2 k hk
  have r0 := (h.bx.keep (below_new W (.cells #[.int .i64 fl, .int .i64 se, .int .i64 sq, .int .i64 gr, .slice ao la.length c, .string bd] 74))).c 0 _ rfl
  have HX : Hid (Box (W.alloc (.cells #[.int .i64 fl, .int .i64 se, .int .i64 sq, .int .i64 gr, .slice ao la.length c, .string bd] 74)) W.heap.size #[.int .i64 fl, .int .i64 se, .int .i64 sq, .int .i64 gr, .slice ao la.length c, .string bd] 74 ∧ Below W.heap.size W (W.alloc (.cells #[.int .i64 fl, .int .i64 se, .int .i64 sq, .int .i64 gr, .slice ao la.length c, .string bd] 74))) := ⟨Box.new _ _ _, below_new _ _⟩
  obtain ⟨n, hnn⟩ : ∃ n, n = L.length := ⟨_, rfl⟩
  have HN := hid hnn
  rw [← hnn] at r0 hn
  have HPL : Hid ((pgsOf L).length = n) := by show _ = _; rw [pgsOf_len, hnn]
  obtain ⟨T, hT⟩ : ∃ T, T = tkE (pgsOf L) op ⟨fl, se, sq, gr, la⟩ := ⟨_, rfl⟩
  have HT : Hid (T = if ¬ mayOk ⟨fl, se, sq, gr, la⟩ then 2 else if n = 65536 then 5 else if ¬ pSer (pgsOf L) ⟨fl, se, sq, gr, la⟩ then 3 else if ¬ pOrd (pgsOf L) op ⟨fl, se, sq, gr, la⟩ then 2 else 0) := by
    show _ = _
    rw [hT, ← HPL.out]
    rfl
  have HTT := hid hT.symm
  have kmb := fun w => j_mayBe ⟨fl, se, sq, gr, la⟩ ao c w
  have HIS := hid (by obtain ⟨i, h1, h2, h3, h4⟩ := info_parts5 info_sheet3; exact (⟨i, h1, h2, h3, h4⟩ : ∃ i, Tryd.prog.info? 74 = some i ∧ i.zero = some (.agg zeroS) ∧ i.size = 6 ∧ i.bytes = 72))
  rw [← hnn] at HR HY hvb
  have HVB := hid hvb
  clear hvb
  clear h hy hT hnn
  go_enter Tryd.func34, Tryd.ntmps34
  go_wp2_with fail
  generalize W.alloc (.cells #[.int .i64 fl, .int .i64 se, .int .i64 sq, .int .i64 gr, .slice ao la.length c, .string bd] 74) = wa at *
  have hkm := kmb wa
  clear kmb
  refine hkm.mono ?_
  rintro e w1 ⟨rfl, hb1⟩
  have hbW := below_on HX.out.2 HX.out.2.size hb1
  have H1 : Hid (Box w1 W.heap.size #[.int .i64 fl, .int .i64 se, .int .i64 sq, .int .i64 gr, .slice ao la.length c, .string bd] 74 ∧ Below W.heap.size W w1 ∧ RW B q w1 L (.slice av n cv) op ∧ SAt q w1 ((⟨⟨fl, se, sq, gr, la⟩, bd⟩, ao, c) : SP) (.slice av n cv)) := ⟨HX.out.1.keep hb1, hbW, HR.out.low hbW, HY.out.ck (Ck.of hbW)⟩
  clear hkm hb1 hbW HX r0 HR HY
  by_cases hm : mayOk ⟨fl, se, sq, gr, la⟩
  · have HM := hid hm
    rw [decide_eq_true hm]
    clear hm
    by_cases h65 : n = 65536
    · have hT5 : Hid (T = 5) := by show _ = _; rw [HT.out, if_neg (fun q => q HM.out), if_pos h65]
      have hb : ((n : Int) == 65536) = true := by rw [beq_iff_eq]; omega
      clear h65
      go_wp2_with fail
      go_ret
      exact TkP.err (HTT.out.trans hT5.out) (by decide) H1.out.2.1
    · have hb : ((n : Int) == 65536) = false := by rw [beq_eq_false_iff_ne]; omega
      have H65 := hid h65
      go_upto_region 6 with fail
      clear hb h65
      go_cut [20] from 21 to 36 (fun s20 wx => s20 = .bool (decide (¬ pSer (pgsOf L) ⟨fl, se, sq, gr, la⟩)) ∧ ∃ j, wx = w1.drewN j)
      case first =>
        have y1 := H1.out.1.c 1 _ rfl
        have r0 := H1.out.2.2.1.bx.c 0 _ rfl
        by_cases h0 : n = 0
        · have hd : decide ((0 : Int) < (n : Int)) = false := decide_eq_false (by omega)
          have hd2 : decide (0 < n) = false := decide_eq_false (by omega)
          have HD : Hid (decide (¬ pSer (pgsOf L) ⟨fl, se, sq, gr, la⟩) = false) := decide_eq_false (fun k => k (.inl (HPL.out.trans h0)))
          clear h0
          go_quiet (fail)
          go_wp2_with fail
          go_meet
          exact ⟨by rw [HD.out], _, rfl⟩
        · have hd : decide ((0 : Int) < (n : Int)) = true := decide_eq_true (by omega)
          have hd2 : decide (0 < n) = true := decide_eq_true (by omega)
          obtain ⟨z, hz⟩ : ∃ z, L[0]? = some z := ⟨_, List.getElem?_eq_getElem (by have := HN.out; omega)⟩
          have HZ : Hid (((pgsOf L).getD 0 Pg0).se = z.1.p.se) := by
            show _ = _
            unfold pgsOf
            rw [List.getD_eq_getElem?_getD, List.getElem?_map, hz]
            rfl
          have ho := H1.out.2.2.1.own
          obtain ⟨gv, cv2, ev⟩ := owns_some ho (by have := HN.out; omega)
          injection ev with ev1 ev2 ev3
          subst ev1
          rw [HN.out] at ho
          have zc : w1.cell? ⟨gv, 1, none⟩ = some (.int .i64 z.1.p.se) := by
            rw [ho.cellAt 1 (by have := HN.out; omega)]
            exact shsC_at L 0 z hz 1 _ rfl
          have h0n : (0 : Int) < (n : Int) := by omega
          generalize z.1.p.se = zs at *
          have HD : Hid (decide (¬ pSer (pgsOf L) ⟨fl, se, sq, gr, la⟩) = (se != zs)) := by
            show _ = _
            by_cases hs : se = zs
            · rw [show (se != zs) = false from by rw [hs]; exact bne_self_eq_false _]
              exact decide_eq_false (fun k => k (.inr (hs.trans HZ.out.symm)))
            · rw [bne_iff_ne.2 hs]
              refine decide_eq_true (fun k => ?_)
              rcases k with k | k
              · exact h0 (HPL.out.symm.trans k)
              · exact hs (k.trans HZ.out)
          clear ho hz ev2 ev3 h0 HZ
          go_quiet (fail)
          go_wp2_with fail
          go_meet
          exact ⟨by rw [HD.out], _, rfl⟩
      case rest =>
        obtain ⟨rfl, j, hw⟩ := hcut
        have hbj : Below w1.heap.size w1 wc := by rw [hw]; exact below_drewN _ _
        have H2 : Hid (Box wc W.heap.size #[.int .i64 fl, .int .i64 se, .int .i64 sq, .int .i64 gr, .slice ao la.length c, .string bd] 74 ∧ Below W.heap.size W wc ∧ RW B q wc L (.slice av n cv) op ∧ SAt q wc ((⟨⟨fl, se, sq, gr, la⟩, bd⟩, ao, c) : SP) (.slice av n cv)) := ⟨H1.out.1.keep hbj, below_on H1.out.2.1 H1.out.2.1.size hbj, H1.out.2.2.1.low hbj, H1.out.2.2.2.ck (Ck.of hbj)⟩
        clear hw hbj H1
        by_cases hs : pSer (pgsOf L) ⟨fl, se, sq, gr, la⟩
        · have HS := hid hs
          rw [decide_eq_false (fun k => k hs)]
          clear hs
          go_upto_region 8 with fail
          obtain ⟨nb, hnb⟩ : ∃ nb, ((n : Int) == 0) = nb := ⟨_, rfl⟩
          have HNB : Hid (nb = true ↔ n = 0) := by
            show _ ↔ _
            rw [← hnb, beq_iff_eq]
            omega
          obtain ⟨b2, hb2⟩ : ∃ b2, decide (fl / ((2 : Nat) : Int) % 2 = 1) = b2 := ⟨_, rfl⟩
          obtain ⟨b1, hb1⟩ : ∃ b1, decide (fl / ((1 : Nat) : Int) % 2 = 1) = b1 := ⟨_, rfl⟩
          have HB2 : Hid (b2 = true ↔ fl / 2 % 2 = 1) := by
            show _ ↔ _
            rw [← hb2, decide_eq_true_iff]
            exact Iff.rfl
          have HB1 : Hid (b1 = true ↔ fl % 2 = 1) := by
            show _ ↔ _
            rw [← hb1, decide_eq_true_iff]
            have : fl / ((1 : Nat) : Int) = fl := by simp
            rw [this]
          have K2 : Hid (∀ wx, Calls Tryd.prog 56 #[.agg #[.int .i64 fl, .int .i64 se, .int .i64 sq, .int .i64 gr, .slice ao la.length c, .string bd], .int .i64 2] wx fun e w' => e = .returned (.bool b2) ∧ Below wx.heap.size wx w') := fun wx => by
            have := j_has ⟨⟨fl, se, sq, gr, la⟩, bd⟩ ao c 2 (by decide) HM.out.1 HM.out.2.1 wx
            rwa [hb2] at this
          have K1 : Hid (∀ wx, Calls Tryd.prog 56 #[.agg #[.int .i64 fl, .int .i64 se, .int .i64 sq, .int .i64 gr, .slice ao la.length c, .string bd], .int .i64 1] wx fun e w' => e = .returned (.bool b1) ∧ Below wx.heap.size wx w') := fun wx => by
            have := j_has ⟨⟨fl, se, sq, gr, la⟩, bd⟩ ao c 1 (by decide) HM.out.1 HM.out.2.1 wx
            rwa [hb1] at this
          clear hb1 hb2
          have HC : Hid (∀ wx, Below wc.heap.size wc wx → (∀ j u, #[.int .i64 fl, .int .i64 se, .int .i64 sq, .int .i64 gr, .slice ao la.length c, .string bd][j]? = some u → wx.cell? ⟨W.heap.size, j, none⟩ = some u) ∧ wx.cell? ⟨q, 1, none⟩ = some (.bool op)) := fun wx hb => ⟨fun j u hj => (H2.out.1.keep hb).c j u hj, (H2.out.2.2.1.low hb).bx.c 1 _ rfl⟩
          go_cut [37] from 38 to 58 (fun s37 wx => s37 = .bool (decide (¬ pOrd (pgsOf L) op ⟨fl, se, sq, gr, la⟩)) ∧ Below wc.heap.size wc wx)
          case first =>
            have y2 := (HC.out wc (Below.refl _ _)).1 2 _ rfl
            refine wp_region_held_drew (S := fun wx => Hid (Below wc.heap.size wc wx)) (by kernel_rfl) (hid (below_drew _)) (fun hS => ?_)
            by_cases hsq : sq = (n : Int)
            · have hsb : (sq != (n : Int)) = false := by rw [hsq]; exact bne_self_eq_false _
              have HSQ := hid hsq
              clear hsq y2
              refine wpAnyH_take (i := 0) (v := .pointer (some ⟨W.heap.size, 0, none⟩)) rfl (by kernel_rfl) (by kernel_rfl) (by kernel_rfl) (fun _ _ _ h => h) (Or.inl ⟨by rfl, fun w hSw => by go_simp⟩) hS ?_
              simp only [Act.put, List.getElem_toArray, List.getElem_cons_succ, List.getElem_cons_zero, List.setIfInBounds_toArray, List.set_cons_zero, List.set_cons_succ]
              refine wpAnyH_take (i := 1) (v := .pointer (some ⟨W.heap.size, 2, none⟩)) rfl (by kernel_rfl) (by kernel_rfl) (by kernel_rfl) (fun _ _ _ h => h) (Or.inl ⟨by rfl, fun w hSw => by go_simp⟩) hS ?_
              simp only [Act.put, List.getElem_toArray, List.getElem_cons_succ, List.getElem_cons_zero, List.setIfInBounds_toArray, List.set_cons_zero, List.set_cons_succ]
              refine wpAnyH_take (i := 2) (v := .int .i64 sq) rfl (by kernel_rfl) (by kernel_rfl) (by kernel_rfl) (fun _ _ _ h => h) (Or.inl ⟨by rfl, fun w hSw => by have c2 := (HC.out _ hSw.out).1 2 _ rfl; go_simp⟩) hS ?_
              simp only [Act.put, List.getElem_toArray, List.getElem_cons_succ, List.getElem_cons_zero, List.setIfInBounds_toArray, List.set_cons_zero, List.set_cons_succ]
              refine wpAnyH_take (i := 3) (v := .int .i64 (n : Int)) rfl (by kernel_rfl) (by kernel_rfl) (by kernel_rfl) (fun _ _ _ h => h) (Or.inl ⟨by rfl, fun w hSw => by go_simp⟩) hS ?_
              simp only [Act.put, List.getElem_toArray, List.getElem_cons_succ, List.getElem_cons_zero, List.setIfInBounds_toArray, List.set_cons_zero, List.set_cons_succ]
              refine wpAnyH_take (i := 4) (v := .bool false) rfl (by kernel_rfl) (by kernel_rfl) (by kernel_rfl) (fun _ _ _ h => h) (Or.inl ⟨by rfl, fun w hSw => by go_simp⟩) hS ?_
              simp only [Act.put, List.getElem_toArray, List.getElem_cons_succ, List.getElem_cons_zero, List.setIfInBounds_toArray, List.set_cons_zero, List.set_cons_succ]
              refine wpAnyH_take (i := 5) (v := .bool false) rfl (by kernel_rfl) (by kernel_rfl) (by kernel_rfl) (fun _ _ _ h => h) (Or.inl ⟨by rfl, fun w hSw => by go_simp⟩) hS ?_
              simp only [Act.put, List.getElem_toArray, List.getElem_cons_succ, List.getElem_cons_zero, List.setIfInBounds_toArray, List.set_cons_zero, List.set_cons_succ]
              refine wpAnyH_take (i := 6) (v := .agg #[.int .i64 fl, .int .i64 se, .int .i64 sq, .int .i64 gr, .slice ao la.length c, .string bd]) rfl (by kernel_rfl) (by kernel_rfl) (by kernel_rfl) (fun _ _ _ h => h) (Or.inl ⟨by rfl, fun w hSw => by obtain ⟨hcx, hcq⟩ := HC.out _ hSw.out; have c0 := hcx 0 _ rfl; have c1 := hcx 1 _ rfl; have c2 := hcx 2 _ rfl; have c3 := hcx 3 _ rfl; have c4 := hcx 4 _ rfl; have c5 := hcx 5 _ rfl; go_simp⟩) hS ?_
              simp only [Act.put, List.getElem_toArray, List.getElem_cons_succ, List.getElem_cons_zero, List.setIfInBounds_toArray, List.set_cons_zero, List.set_cons_succ]
              refine wpAnyH_take (i := 8) (v := .int .i64 (n : Int)) rfl (by kernel_rfl) (by kernel_rfl) (by kernel_rfl) (fun _ _ _ h => h) (Or.inl ⟨by rfl, fun w hSw => by go_simp⟩) hS ?_
              simp only [Act.put, List.getElem_toArray, List.getElem_cons_succ, List.getElem_cons_zero, List.setIfInBounds_toArray, List.set_cons_zero, List.set_cons_succ]
              refine wpAnyH_take (i := 9) (v := .bool nb) rfl (by kernel_rfl) (by kernel_rfl) (by kernel_rfl) (fun _ _ _ h => h) (Or.inl ⟨by rfl, fun w hSw => by go_simp⟩) hS ?_
              simp only [Act.put, List.getElem_toArray, List.getElem_cons_succ, List.getElem_cons_zero, List.setIfInBounds_toArray, List.set_cons_zero, List.set_cons_succ]
              refine wpAnyH_ready (rs := [7]) (by kernel_rfl) (by simp) ?_
              refine AllReadyH.cons rfl (fun K hK => ?_) AllReadyH.nil
              go_simp
              refine (K2.out _).mono ?_
              rintro e w5 ⟨rfl, hb⟩
              have hbb2 := below_on hS.out hS.out.size hb
              refine hK.out _ _ (hid hbb2) (fun hS2 => ?_)
              clear hK K hS hb hbb2
              by_cases hbn : b2 = nb
              · subst hbn
                clear hnb
                refine wpAnyH_take (i := 10) (v := .bool false) rfl (by kernel_rfl) (by kernel_rfl) (by kernel_rfl) (fun _ _ _ h => h) (Or.inl ⟨by rfl, fun w hSw => by go_simp⟩) hS2 ?_
                simp only [Act.put, List.getElem_toArray, List.getElem_cons_succ, List.getElem_cons_zero, List.setIfInBounds_toArray, List.set_cons_zero, List.set_cons_succ]
                refine wpAnyH_take (i := 11) (v := .bool false) rfl (by kernel_rfl) (by kernel_rfl) (by kernel_rfl) (fun _ _ _ h => h) (Or.inl ⟨by rfl, fun w hSw => by go_simp⟩) hS2 ?_
                simp only [Act.put, List.getElem_toArray, List.getElem_cons_succ, List.getElem_cons_zero, List.setIfInBounds_toArray, List.set_cons_zero, List.set_cons_succ]
                refine wpAnyH_take (i := 12) (v := .bool false) rfl (by kernel_rfl) (by kernel_rfl) (by kernel_rfl) (fun _ _ _ h => h) (Or.inl ⟨by rfl, fun w hSw => by go_simp⟩) hS2 ?_
                simp only [Act.put, List.getElem_toArray, List.getElem_cons_succ, List.getElem_cons_zero, List.setIfInBounds_toArray, List.set_cons_zero, List.set_cons_succ]
                refine wpAnyH_take (i := 13) (v := .agg #[.int .i64 fl, .int .i64 se, .int .i64 sq, .int .i64 gr, .slice ao la.length c, .string bd]) rfl (by kernel_rfl) (by kernel_rfl) (by kernel_rfl) (fun _ _ _ h => h) (Or.inl ⟨by rfl, fun w hSw => by obtain ⟨hcx, hcq⟩ := HC.out _ hSw.out; have c0 := hcx 0 _ rfl; have c1 := hcx 1 _ rfl; have c2 := hcx 2 _ rfl; have c3 := hcx 3 _ rfl; have c4 := hcx 4 _ rfl; have c5 := hcx 5 _ rfl; go_simp⟩) hS2 ?_
                simp only [Act.put, List.getElem_toArray, List.getElem_cons_succ, List.getElem_cons_zero, List.setIfInBounds_toArray, List.set_cons_zero, List.set_cons_succ]
                refine wpAnyH_take (i := 15) (v := .pointer (some ⟨q, 0, none⟩)) rfl (by kernel_rfl) (by kernel_rfl) (by kernel_rfl) (fun _ _ _ h => h) (Or.inl ⟨by rfl, fun w hSw => by go_simp⟩) hS2 ?_
                simp only [Act.put, List.getElem_toArray, List.getElem_cons_succ, List.getElem_cons_zero, List.setIfInBounds_toArray, List.set_cons_zero, List.set_cons_succ]
                refine wpAnyH_take (i := 16) (v := .pointer (some ⟨q, 0, none⟩)) rfl (by kernel_rfl) (by kernel_rfl) (by kernel_rfl) (fun _ _ _ h => h) (Or.inl ⟨by rfl, fun w hSw => by go_simp⟩) hS2 ?_
                simp only [Act.put, List.getElem_toArray, List.getElem_cons_succ, List.getElem_cons_zero, List.setIfInBounds_toArray, List.set_cons_zero, List.set_cons_succ]
                refine wpAnyH_take (i := 17) (v := .pointer (some ⟨q, 1, none⟩)) rfl (by kernel_rfl) (by kernel_rfl) (by kernel_rfl) (fun _ _ _ h => h) (Or.inl ⟨by rfl, fun w hSw => by go_simp⟩) hS2 ?_
                simp only [Act.put, List.getElem_toArray, List.getElem_cons_succ, List.getElem_cons_zero, List.setIfInBounds_toArray, List.set_cons_zero, List.set_cons_succ]
                refine wpAnyH_take (i := 18) (v := .bool op) rfl (by kernel_rfl) (by kernel_rfl) (by kernel_rfl) (fun _ _ _ h => h) (Or.inl ⟨by rfl, fun w hSw => by have cq := (HC.out _ hSw.out).2; go_simp⟩) hS2 ?_
                simp only [Act.put, List.getElem_toArray, List.getElem_cons_succ, List.getElem_cons_zero, List.setIfInBounds_toArray, List.set_cons_zero, List.set_cons_succ]
                refine wpAnyH_ready (rs := [14]) (by kernel_rfl) (by simp) ?_
                refine AllReadyH.cons rfl (fun K hK => ?_) AllReadyH.nil
                go_simp
                refine (K1.out _).mono ?_
                rintro e w6 ⟨rfl, hb⟩
                have hbb2 := below_on hS2.out hS2.out.size hb
                refine hK.out _ _ (hid hbb2) (fun hS3 => ?_)
                clear hK K hS2 hb hbb2
                by_cases ho : b1 = op
                · have HD : Hid (decide (¬ pOrd (pgsOf L) op ⟨fl, se, sq, gr, la⟩) = false) := by
                    refine decide_eq_false (fun k => k ⟨HSQ.out.trans (by rw [HPL.out]), ?_, ?_⟩)
                    · rw [HPL.out, ← HNB.out]; exact HB2.out.symm
                    · rw [← ho]; exact HB1.out.symm
                  subst ho
                  refine wpAnyH_take (i := 19) (v := .bool false) rfl (by kernel_rfl) (by kernel_rfl) (by kernel_rfl) (fun _ _ _ h => h) (Or.inl ⟨by rfl, fun w hSw => by go_simp⟩) hS3 ?_
                  simp only [Act.put, List.getElem_toArray, List.getElem_cons_succ, List.getElem_cons_zero, List.setIfInBounds_toArray, List.set_cons_zero, List.set_cons_succ]
                  refine wpAnyH_take (i := 20) (v := .bool false) rfl (by kernel_rfl) (by kernel_rfl) (by kernel_rfl) (fun _ _ _ h => h) (Or.inl ⟨by rfl, fun w hSw => by go_simp⟩) hS3 ?_
                  simp only [Act.put, List.getElem_toArray, List.getElem_cons_succ, List.getElem_cons_zero, List.setIfInBounds_toArray, List.set_cons_zero, List.set_cons_succ]
                  refine wpAnyH_take (i := 21) (v := .bool false) rfl (by kernel_rfl) (by kernel_rfl) (by kernel_rfl) (fun _ _ _ h => h) (Or.inl ⟨by rfl, fun w hSw => by go_simp⟩) hS3 ?_
                  simp only [Act.put, List.getElem_toArray, List.getElem_cons_succ, List.getElem_cons_zero, List.setIfInBounds_toArray, List.set_cons_zero, List.set_cons_succ]
                  refine wpAnyH_done (by kernel_rfl) ?_ _
                  go_wp2_with fail
                  go_meet
                  exact ⟨by rw [HD.out], hS3.out⟩
                · have HD : Hid (decide (¬ pOrd (pgsOf L) op ⟨fl, se, sq, gr, la⟩) = true) := by
                    refine decide_eq_true (fun k => ho ?_)
                    have h3 := HB1.out.trans k.2.2
                    cases b1 <;> cases op <;> simp_all
                  obtain rfl : b1 = !op := by cases b1 <;> cases op <;> simp_all
                  clear ho
                  refine wpAnyH_take (i := 19) (v := .bool true) rfl (by kernel_rfl) (by kernel_rfl) (by kernel_rfl) (fun _ _ _ h => h) (Or.inl ⟨by rfl, fun w hSw => by go_simp⟩) hS3 ?_
                  simp only [Act.put, List.getElem_toArray, List.getElem_cons_succ, List.getElem_cons_zero, List.setIfInBounds_toArray, List.set_cons_zero, List.set_cons_succ]
                  refine wpAnyH_take (i := 20) (v := .bool true) rfl (by kernel_rfl) (by kernel_rfl) (by kernel_rfl) (fun _ _ _ h => h) (Or.inl ⟨by rfl, fun w hSw => by go_simp⟩) hS3 ?_
                  simp only [Act.put, List.getElem_toArray, List.getElem_cons_succ, List.getElem_cons_zero, List.setIfInBounds_toArray, List.set_cons_zero, List.set_cons_succ]
                  refine wpAnyH_take (i := 21) (v := .bool true) rfl (by kernel_rfl) (by kernel_rfl) (by kernel_rfl) (fun _ _ _ h => h) (Or.inl ⟨by rfl, fun w hSw => by go_simp⟩) hS3 ?_
                  simp only [Act.put, List.getElem_toArray, List.getElem_cons_succ, List.getElem_cons_zero, List.setIfInBounds_toArray, List.set_cons_zero, List.set_cons_succ]
                  refine wpAnyH_done (by kernel_rfl) ?_ _
                  go_wp2_with fail
                  go_meet
                  exact ⟨by rw [HD.out], hS3.out⟩
              · have HD : Hid (decide (¬ pOrd (pgsOf L) op ⟨fl, se, sq, gr, la⟩) = true) := decide_eq_true (fun k => hbn (by
                  have h3 := k.2.1
                  rw [HPL.out, ← HNB.out] at h3
                  have h4 := HB2.out.trans h3
                  cases b2 <;> cases nb <;> simp_all))
                obtain rfl : b2 = !nb := by cases b2 <;> cases nb <;> simp_all
                clear hbn
                refine wpAnyH_take (i := 10) (v := .bool true) rfl (by kernel_rfl) (by kernel_rfl) (by kernel_rfl) (fun _ _ _ h => h) (Or.inl ⟨by rfl, fun w hSw => by go_simp⟩) hS2 ?_
                simp only [Act.put, List.getElem_toArray, List.getElem_cons_succ, List.getElem_cons_zero, List.setIfInBounds_toArray, List.set_cons_zero, List.set_cons_succ]
                refine wpAnyH_take (i := 11) (v := .bool true) rfl (by kernel_rfl) (by kernel_rfl) (by kernel_rfl) (fun _ _ _ h => h) (Or.inl ⟨by rfl, fun w hSw => by go_simp⟩) hS2 ?_
                simp only [Act.put, List.getElem_toArray, List.getElem_cons_succ, List.getElem_cons_zero, List.setIfInBounds_toArray, List.set_cons_zero, List.set_cons_succ]
                refine wpAnyH_take (i := 12) (v := .bool true) rfl (by kernel_rfl) (by kernel_rfl) (by kernel_rfl) (fun _ _ _ h => h) (Or.inl ⟨by rfl, fun w hSw => by go_simp⟩) hS2 ?_
                simp only [Act.put, List.getElem_toArray, List.getElem_cons_succ, List.getElem_cons_zero, List.setIfInBounds_toArray, List.set_cons_zero, List.set_cons_succ]
                refine wpAnyH_take (i := 13) (v := undef) rfl (by kernel_rfl) (by kernel_rfl) (by kernel_rfl) (fun _ _ _ h => h) (Or.inr ⟨by rfl, rfl⟩) hS2 ?_
                simp only [Act.put, List.getElem_toArray, List.getElem_cons_succ, List.getElem_cons_zero, List.setIfInBounds_toArray, List.set_cons_zero, List.set_cons_succ]
                refine wpAnyH_take (i := 14) (v := undef) rfl (by kernel_rfl) (by kernel_rfl) (by kernel_rfl) (fun _ _ _ h => h) (Or.inr ⟨by rfl, rfl⟩) hS2 ?_
                simp only [Act.put, List.getElem_toArray, List.getElem_cons_succ, List.getElem_cons_zero, List.setIfInBounds_toArray, List.set_cons_zero, List.set_cons_succ]
                refine wpAnyH_take (i := 15) (v := undef) rfl (by kernel_rfl) (by kernel_rfl) (by kernel_rfl) (fun _ _ _ h => h) (Or.inr ⟨by rfl, rfl⟩) hS2 ?_
                simp only [Act.put, List.getElem_toArray, List.getElem_cons_succ, List.getElem_cons_zero, List.setIfInBounds_toArray, List.set_cons_zero, List.set_cons_succ]
                refine wpAnyH_take (i := 16) (v := undef) rfl (by kernel_rfl) (by kernel_rfl) (by kernel_rfl) (fun _ _ _ h => h) (Or.inr ⟨by rfl, rfl⟩) hS2 ?_
                simp only [Act.put, List.getElem_toArray, List.getElem_cons_succ, List.getElem_cons_zero, List.setIfInBounds_toArray, List.set_cons_zero, List.set_cons_succ]
                refine wpAnyH_take (i := 17) (v := undef) rfl (by kernel_rfl) (by kernel_rfl) (by kernel_rfl) (fun _ _ _ h => h) (Or.inr ⟨by rfl, rfl⟩) hS2 ?_
                simp only [Act.put, List.getElem_toArray, List.getElem_cons_succ, List.getElem_cons_zero, List.setIfInBounds_toArray, List.set_cons_zero, List.set_cons_succ]
                refine wpAnyH_take (i := 18) (v := undef) rfl (by kernel_rfl) (by kernel_rfl) (by kernel_rfl) (fun _ _ _ h => h) (Or.inr ⟨by rfl, rfl⟩) hS2 ?_
                simp only [Act.put, List.getElem_toArray, List.getElem_cons_succ, List.getElem_cons_zero, List.setIfInBounds_toArray, List.set_cons_zero, List.set_cons_succ]
                refine wpAnyH_take (i := 19) (v := undef) rfl (by kernel_rfl) (by kernel_rfl) (by kernel_rfl) (fun _ _ _ h => h) (Or.inr ⟨by rfl, rfl⟩) hS2 ?_
                simp only [Act.put, List.getElem_toArray, List.getElem_cons_succ, List.getElem_cons_zero, List.setIfInBounds_toArray, List.set_cons_zero, List.set_cons_succ]
                refine wpAnyH_take (i := 20) (v := .bool true) rfl (by kernel_rfl) (by kernel_rfl) (by kernel_rfl) (fun _ _ _ h => h) (Or.inl ⟨by rfl, fun w hSw => by go_simp⟩) hS2 ?_
                simp only [Act.put, List.getElem_toArray, List.getElem_cons_succ, List.getElem_cons_zero, List.setIfInBounds_toArray, List.set_cons_zero, List.set_cons_succ]
                refine wpAnyH_take (i := 21) (v := .bool true) rfl (by kernel_rfl) (by kernel_rfl) (by kernel_rfl) (fun _ _ _ h => h) (Or.inl ⟨by rfl, fun w hSw => by go_simp⟩) hS2 ?_
                simp only [Act.put, List.getElem_toArray, List.getElem_cons_succ, List.getElem_cons_zero, List.setIfInBounds_toArray, List.set_cons_zero, List.set_cons_succ]
                refine wpAnyH_done (by kernel_rfl) ?_ _
                go_wp2_with fail
                go_meet
                exact ⟨by rw [HD.out], hS2.out⟩
            · have hsb : (sq != (n : Int)) = true := bne_iff_ne.2 hsq
              have HD : Hid (decide (¬ pOrd (pgsOf L) op ⟨fl, se, sq, gr, la⟩) = true) := decide_eq_true (fun k => hsq (k.1.trans (by rw [HPL.out])))
              clear hsq
              refine wpAnyH_take (i := 0) (v := .pointer (some ⟨W.heap.size, 0, none⟩)) rfl (by kernel_rfl) (by kernel_rfl) (by kernel_rfl) (fun _ _ _ h => h) (Or.inl ⟨by rfl, fun w hSw => by go_simp⟩) hS ?_
              simp only [Act.put, List.getElem_toArray, List.getElem_cons_succ, List.getElem_cons_zero, List.setIfInBounds_toArray, List.set_cons_zero, List.set_cons_succ]
              refine wpAnyH_take (i := 1) (v := .pointer (some ⟨W.heap.size, 2, none⟩)) rfl (by kernel_rfl) (by kernel_rfl) (by kernel_rfl) (fun _ _ _ h => h) (Or.inl ⟨by rfl, fun w hSw => by go_simp⟩) hS ?_
              simp only [Act.put, List.getElem_toArray, List.getElem_cons_succ, List.getElem_cons_zero, List.setIfInBounds_toArray, List.set_cons_zero, List.set_cons_succ]
              refine wpAnyH_take (i := 2) (v := .int .i64 sq) rfl (by kernel_rfl) (by kernel_rfl) (by kernel_rfl) (fun _ _ _ h => h) (Or.inl ⟨by rfl, fun w hSw => by have c2 := (HC.out _ hSw.out).1 2 _ rfl; go_simp⟩) hS ?_
              simp only [Act.put, List.getElem_toArray, List.getElem_cons_succ, List.getElem_cons_zero, List.setIfInBounds_toArray, List.set_cons_zero, List.set_cons_succ]
              refine wpAnyH_take (i := 3) (v := .int .i64 (n : Int)) rfl (by kernel_rfl) (by kernel_rfl) (by kernel_rfl) (fun _ _ _ h => h) (Or.inl ⟨by rfl, fun w hSw => by go_simp⟩) hS ?_
              simp only [Act.put, List.getElem_toArray, List.getElem_cons_succ, List.getElem_cons_zero, List.setIfInBounds_toArray, List.set_cons_zero, List.set_cons_succ]
              refine wpAnyH_take (i := 4) (v := .bool true) rfl (by kernel_rfl) (by kernel_rfl) (by kernel_rfl) (fun _ _ _ h => h) (Or.inl ⟨by rfl, fun w hSw => by go_simp⟩) hS ?_
              simp only [Act.put, List.getElem_toArray, List.getElem_cons_succ, List.getElem_cons_zero, List.setIfInBounds_toArray, List.set_cons_zero, List.set_cons_succ]
              refine wpAnyH_take (i := 5) (v := .bool true) rfl (by kernel_rfl) (by kernel_rfl) (by kernel_rfl) (fun _ _ _ h => h) (Or.inl ⟨by rfl, fun w hSw => by go_simp⟩) hS ?_
              simp only [Act.put, List.getElem_toArray, List.getElem_cons_succ, List.getElem_cons_zero, List.setIfInBounds_toArray, List.set_cons_zero, List.set_cons_succ]
              refine wpAnyH_take (i := 6) (v := undef) rfl (by kernel_rfl) (by kernel_rfl) (by kernel_rfl) (fun _ _ _ h => h) (Or.inr ⟨by rfl, rfl⟩) hS ?_
              simp only [Act.put, List.getElem_toArray, List.getElem_cons_succ, List.getElem_cons_zero, List.setIfInBounds_toArray, List.set_cons_zero, List.set_cons_succ]
              refine wpAnyH_take (i := 7) (v := undef) rfl (by kernel_rfl) (by kernel_rfl) (by kernel_rfl) (fun _ _ _ h => h) (Or.inr ⟨by rfl, rfl⟩) hS ?_
              simp only [Act.put, List.getElem_toArray, List.getElem_cons_succ, List.getElem_cons_zero, List.setIfInBounds_toArray, List.set_cons_zero, List.set_cons_succ]
              refine wpAnyH_take (i := 8) (v := undef) rfl (by kernel_rfl) (by kernel_rfl) (by kernel_rfl) (fun _ _ _ h => h) (Or.inr ⟨by rfl, rfl⟩) hS ?_
              simp only [Act.put, List.getElem_toArray, List.getElem_cons_succ, List.getElem_cons_zero, List.setIfInBounds_toArray, List.set_cons_zero, List.set_cons_succ]
              refine wpAnyH_take (i := 9) (v := undef) rfl (by kernel_rfl) (by kernel_rfl) (by kernel_rfl) (fun _ _ _ h => h) (Or.inr ⟨by rfl, rfl⟩) hS ?_
              simp only [Act.put, List.getElem_toArray, List.getElem_cons_succ, List.getElem_cons_zero, List.setIfInBounds_toArray, List.set_cons_zero, List.set_cons_succ]
              refine wpAnyH_take (i := 10) (v := undef) rfl (by kernel_rfl) (by kernel_rfl) (by kernel_rfl) (fun _ _ _ h => h) (Or.inr ⟨by rfl, rfl⟩) hS ?_
              simp only [Act.put, List.getElem_toArray, List.getElem_cons_succ, List.getElem_cons_zero, List.setIfInBounds_toArray, List.set_cons_zero, List.set_cons_succ]
              refine wpAnyH_take (i := 11) (v := .bool true) rfl (by kernel_rfl) (by kernel_rfl) (by kernel_rfl) (fun _ _ _ h => h) (Or.inl ⟨by rfl, fun w hSw => by go_simp⟩) hS ?_
              simp only [Act.put, List.getElem_toArray, List.getElem_cons_succ, List.getElem_cons_zero, List.setIfInBounds_toArray, List.set_cons_zero, List.set_cons_succ]
              refine wpAnyH_take (i := 12) (v := .bool true) rfl (by kernel_rfl) (by kernel_rfl) (by kernel_rfl) (fun _ _ _ h => h) (Or.inl ⟨by rfl, fun w hSw => by go_simp⟩) hS ?_
              simp only [Act.put, List.getElem_toArray, List.getElem_cons_succ, List.getElem_cons_zero, List.setIfInBounds_toArray, List.set_cons_zero, List.set_cons_succ]
              refine wpAnyH_take (i := 13) (v := undef) rfl (by kernel_rfl) (by kernel_rfl) (by kernel_rfl) (fun _ _ _ h => h) (Or.inr ⟨by rfl, rfl⟩) hS ?_
              simp only [Act.put, List.getElem_toArray, List.getElem_cons_succ, List.getElem_cons_zero, List.setIfInBounds_toArray, List.set_cons_zero, List.set_cons_succ]
              refine wpAnyH_take (i := 14) (v := undef) rfl (by kernel_rfl) (by kernel_rfl) (by kernel_rfl) (fun _ _ _ h => h) (Or.inr ⟨by rfl, rfl⟩) hS ?_
              simp only [Act.put, List.getElem_toArray, List.getElem_cons_succ, List.getElem_cons_zero, List.setIfInBounds_toArray, List.set_cons_zero, List.set_cons_succ]
              refine wpAnyH_take (i := 15) (v := undef) rfl (by kernel_rfl) (by kernel_rfl) (by kernel_rfl) (fun _ _ _ h => h) (Or.inr ⟨by rfl, rfl⟩) hS ?_
              simp only [Act.put, List.getElem_toArray, List.getElem_cons_succ, List.getElem_cons_zero, List.setIfInBounds_toArray, List.set_cons_zero, List.set_cons_succ]
              refine wpAnyH_take (i := 16) (v := undef) rfl (by kernel_rfl) (by kernel_rfl) (by kernel_rfl) (fun _ _ _ h => h) (Or.inr ⟨by rfl, rfl⟩) hS ?_
              simp only [Act.put, List.getElem_toArray, List.getElem_cons_succ, List.getElem_cons_zero, List.setIfInBounds_toArray, List.set_cons_zero, List.set_cons_succ]
              refine wpAnyH_take (i := 17) (v := undef) rfl (by kernel_rfl) (by kernel_rfl) (by kernel_rfl) (fun _ _ _ h => h) (Or.inr ⟨by rfl, rfl⟩) hS ?_
              simp only [Act.put, List.getElem_toArray, List.getElem_cons_succ, List.getElem_cons_zero, List.setIfInBounds_toArray, List.set_cons_zero, List.set_cons_succ]
              refine wpAnyH_take (i := 18) (v := undef) rfl (by kernel_rfl) (by kernel_rfl) (by kernel_rfl) (fun _ _ _ h => h) (Or.inr ⟨by rfl, rfl⟩) hS ?_
              simp only [Act.put, List.getElem_toArray, List.getElem_cons_succ, List.getElem_cons_zero, List.setIfInBounds_toArray, List.set_cons_zero, List.set_cons_succ]
              refine wpAnyH_take (i := 19) (v := undef) rfl (by kernel_rfl) (by kernel_rfl) (by kernel_rfl) (fun _ _ _ h => h) (Or.inr ⟨by rfl, rfl⟩) hS ?_
              simp only [Act.put, List.getElem_toArray, List.getElem_cons_succ, List.getElem_cons_zero, List.setIfInBounds_toArray, List.set_cons_zero, List.set_cons_succ]
              refine wpAnyH_take (i := 20) (v := .bool true) rfl (by kernel_rfl) (by kernel_rfl) (by kernel_rfl) (fun _ _ _ h => h) (Or.inl ⟨by rfl, fun w hSw => by go_simp⟩) hS ?_
              simp only [Act.put, List.getElem_toArray, List.getElem_cons_succ, List.getElem_cons_zero, List.setIfInBounds_toArray, List.set_cons_zero, List.set_cons_succ]
              refine wpAnyH_take (i := 21) (v := .bool true) rfl (by kernel_rfl) (by kernel_rfl) (by kernel_rfl) (fun _ _ _ h => h) (Or.inl ⟨by rfl, fun w hSw => by go_simp⟩) hS ?_
              simp only [Act.put, List.getElem_toArray, List.getElem_cons_succ, List.getElem_cons_zero, List.setIfInBounds_toArray, List.set_cons_zero, List.set_cons_succ]
              refine wpAnyH_done (by kernel_rfl) ?_ _
              go_wp2_with fail
              go_meet
              exact ⟨by rw [HD.out], hS.out⟩
          case rest =>
            obtain ⟨rfl, hbc⟩ := hcut
            have H3 : Hid (Box wc W.heap.size #[.int .i64 fl, .int .i64 se, .int .i64 sq, .int .i64 gr, .slice ao la.length c, .string bd] 74 ∧ Below W.heap.size W wc ∧ RW B q wc L (.slice av n cv) op ∧ SAt q wc ((⟨⟨fl, se, sq, gr, la⟩, bd⟩, ao, c) : SP) (.slice av n cv)) := ⟨H2.out.1.keep hbc, below_on H2.out.2.1 H2.out.2.1.size hbc, H2.out.2.2.1.low hbc, H2.out.2.2.2.ck (Ck.of hbc)⟩
            clear hbc H2 HC K1 K2 HB1 HB2 hnb HNB
            by_cases ho : pOrd (pgsOf L) op ⟨fl, se, sq, gr, la⟩
            · have hT0 : Hid (T = 0) := by show _ = _; rw [HT.out, if_neg (fun q => q HM.out), if_neg H65.out, if_neg (fun q => q HS.out), if_neg (fun q => q ho)]
              rw [decide_eq_false (fun k => k ho)]
              clear ho HT
              obtain ⟨iS, hI0, hI1, hI2, hI3⟩ := HIS.out
              have HC2 : Hid (∀ wx, Below wc.heap.size wc wx → wx.cell? ⟨q, 0, none⟩ = some (.slice av n cv) ∧ ∀ j u, #[.int .i64 fl, .int .i64 se, .int .i64 sq, .int .i64 gr, .slice ao la.length c, .string bd][j]? = some u → wx.cell? ⟨W.heap.size, j, none⟩ = some u) := fun wx hb => ⟨(H3.out.2.2.1.low hb).bx.c 0 _ rfl, fun j u hj => (H3.out.1.keep hb).c j u hj⟩
              obtain ⟨wy, hwy⟩ : ∃ wy, wy = World.drew (World.alloc wc (.cells #[.int .i64 fl, .int .i64 se, .int .i64 sq, .int .i64 gr, .slice ao la.length c, .string bd] 74)) := ⟨_, rfl⟩
              obtain ⟨gy, hgy⟩ : ∃ gy, gy = wc.heap.size := ⟨_, rfl⟩
              have hby : Below wc.heap.size wc wy := by rw [hwy]; exact below_on (below_new _ _) (by simp) (below_drew _)
              have hRy := H3.out.2.2.1.low hby
              have hyb : Box wy gy #[.int .i64 fl, .int .i64 se, .int .i64 sq, .int .i64 gr, .slice ao la.length c, .string bd] 74 := by rw [hwy, hgy]; exact (Box.new _ _ _).drew
              obtain ⟨v6, w6, hrun, r1, r2, _, r4⟩ := run_append_own_at (P := Tryd.prog) wy B 53 53 74 iS (.agg zeroS) 6 72 Tryd.underlying53 hI0 hI1 hI2 hI3 rfl (by decide) (.slice av n cv) L.length (shsC L) hRy.own ⟨gy, 0, none⟩ 1 1 (shC (⟨⟨fl, se, sq, gr, la⟩, bd⟩ : Sh) ao c) rfl (fun j u hj => by
                rw [Addr.add_mid, Nat.zero_add]
                exact hyb.c j u (by rw [List.getElem?_toArray]; exact hj)) (fun u hu => by simp at hu; rcases hu with rfl | rfl | rfl | rfl | rfl | rfl <;> rfl) (by simp only [maxLen]; have := HN.out; omega) (by have := HN.out; omega) (by
                  have := hRy.Bq
                  have := hRy.bx.lt
                  omega)
              have hlen1 : (L ++ [((⟨⟨fl, se, sq, gr, la⟩, bd⟩, ao, c) : SP)]).length = n + 1 := by rw [List.length_append, List.length_singleton, HN.out]
              have hsy : SAt q wy ((⟨⟨fl, se, sq, gr, la⟩, bd⟩, ao, c) : SP) (.slice av n cv) := H3.out.2.2.2.ck (Ck.of hby)
              obtain ⟨hp1, hp2⟩ := hRy.push hsy r1 r2 r4
              have hxl : W.heap.size < wy.heap.size := (H3.out.1.keep hby).lt
              have hx6 : Box w6 W.heap.size #[.int .i64 fl, .int .i64 se, .int .i64 sq, .int .i64 gr, .slice ao la.length c, .string bd] 74 := box_grown (H3.out.1.keep hby) r2 (fun e => by
                have h1 := HVB.out _ e
                omega)
              have HP : Hid (RW B q (w6.setCell ⟨q, 0, none⟩ v6) (L ++ [((⟨⟨fl, se, sq, gr, la⟩, bd⟩, ao, c) : SP)]) v6 op ∧ Box w6 q #[.slice av n cv, .bool op] 72 ∧ Box (w6.setCell ⟨q, 0, none⟩ v6) W.heap.size #[.int .i64 fl, .int .i64 se, .int .i64 sq, .int .i64 gr, .slice ao la.length c, .string bd] 74 ∧ Box w6 W.heap.size #[.int .i64 fl, .int .i64 se, .int .i64 sq, .int .i64 gr, .slice ao la.length c, .string bd] 74) := ⟨hp1, hp2, hx6.otherc (by omega) _, hx6⟩
              have HKO : Hid (KeepsOthers W (w6.setCell ⟨q, 0, none⟩ v6) ∧ ∀ n0, n0 ≤ q → n0 ≤ W.heap.size → Below n0 W (w6.setCell ⟨q, 0, none⟩ v6)) := by
                have hWy : Below W.heap.size W wy := below_on H3.out.2.1 H3.out.2.1.size hby
                refine ⟨((keeps_of hWy).trans (keeps_row hRy.own r2)).trans (KeepsOthers.setCell _ _ _), fun n0 h1 h2 => ?_⟩
                exact (grown_to r2 (hWy.mono h2) (Nat.le_trans h2 hWy.size) (fun k e => by have := hRy.blk k e; have := hRy.qB; omega)).setCell (p := ⟨q, 0, none⟩) h1 _
              have HRUN : Hid ((Builtin.append_ #[53, 53] 53 #[.slice av n cv, .slice (some ⟨gy, 0, none⟩) 1 1]).run Tryd.prog wy = .ok v6 w6) := hrun
              obtain ⟨a6, c6, e6⟩ := owns_sl r1
              have HB6 : Hid (Below wc.heap.size wc wy) := hby
              subst e6
              clear hrun r1 r2 r4 hp1 hp2 hx6 hsy hRy hyb hby hxl
              go_upto_region 10 with fail
              go_cut [59] from 59 to 68 (fun _ wx => RW B q wx (L ++ [((⟨⟨fl, se, sq, gr, la⟩, bd⟩, ao, c) : SP)]) (.slice a6 (L.length + 1) c6) op ∧ Box wx W.heap.size #[.int .i64 fl, .int .i64 se, .int .i64 sq, .int .i64 gr, .slice ao la.length c, .string bd] 74 ∧ KeepsOthers W wx ∧ ∀ n0, n0 ≤ q → n0 ≤ W.heap.size → Below n0 W wx)
              case first =>
                have SX : ∀ wx, Below wc.heap.size wc wx → Hid (∀ j u, #[.int .i64 fl, .int .i64 se, .int .i64 sq, .int .i64 gr, .slice ao la.length c, .string bd][j]? = some u → wx.cell? ⟨W.heap.size, j, none⟩ = some u) := fun wx hb => (HC2.out wx hb).2
                refine wp_region_held_drew (S := fun wx => Hid (∀ j u, #[.int .i64 fl, .int .i64 se, .int .i64 sq, .int .i64 gr, .slice ao la.length c, .string bd][j]? = some u → wx.cell? ⟨W.heap.size, j, none⟩ = some u)) (by kernel_rfl) (SX _ (below_drew _)) (fun hS => ?_)
                refine wpAnyH_take (i := 0) (v := .pointer (some ⟨q, 0, none⟩)) rfl (by kernel_rfl) (by kernel_rfl) (by kernel_rfl) (fun _ _ _ h => h) (Or.inl ⟨by rfl, fun w hSw => by go_simp⟩) hS ?_
                simp only [Act.put, List.getElem_toArray, List.getElem_cons_succ, List.getElem_cons_zero, List.setIfInBounds_toArray, List.set_cons_zero, List.set_cons_succ]
                refine wpAnyH_take (i := 1) (v := .pointer (some ⟨q, 0, none⟩)) rfl (by kernel_rfl) (by kernel_rfl) (by kernel_rfl) (fun _ _ _ h => h) (Or.inl ⟨by rfl, fun w hSw => by go_simp⟩) hS ?_
                simp only [Act.put, List.getElem_toArray, List.getElem_cons_succ, List.getElem_cons_zero, List.setIfInBounds_toArray, List.set_cons_zero, List.set_cons_succ]
                refine wpAnyH_take (i := 2) (v := .pointer (some ⟨q, 0, none⟩)) rfl (by kernel_rfl) (by kernel_rfl) (by kernel_rfl) (fun _ _ _ h => h) (Or.inl ⟨by rfl, fun w hSw => by go_simp⟩) hS ?_
                simp only [Act.put, List.getElem_toArray, List.getElem_cons_succ, List.getElem_cons_zero, List.setIfInBounds_toArray, List.set_cons_zero, List.set_cons_succ]
                refine wpAnyH_take (i := 3) (v := .pointer (some ⟨q, 0, none⟩)) rfl (by kernel_rfl) (by kernel_rfl) (by kernel_rfl) (fun _ _ _ h => h) (Or.inl ⟨by rfl, fun w hSw => by go_simp⟩) hS ?_
                simp only [Act.put, List.getElem_toArray, List.getElem_cons_succ, List.getElem_cons_zero, List.setIfInBounds_toArray, List.set_cons_zero, List.set_cons_succ]
                refine wpAnyH_take (i := 5) (v := .agg #[.int .i64 fl, .int .i64 se, .int .i64 sq, .int .i64 gr, .slice ao la.length c, .string bd]) rfl (by kernel_rfl) (by kernel_rfl) (by kernel_rfl) (fun _ _ _ h => h) (Or.inl ⟨by rfl, fun w hSw => by have hcx := hSw.out; have c0 := hcx 0 _ rfl; have c1 := hcx 1 _ rfl; have c2 := hcx 2 _ rfl; have c3 := hcx 3 _ rfl; have c4 := hcx 4 _ rfl; have c5 := hcx 5 _ rfl; go_simp⟩) hS ?_
                simp only [Act.put, List.getElem_toArray, List.getElem_cons_succ, List.getElem_cons_zero, List.setIfInBounds_toArray, List.set_cons_zero, List.set_cons_succ]
                refine wpAnyH_ready (rs := [4, 6]) (by kernel_rfl) (by simp) ?_
                refine AllReadyH.cons rfl (fun K hK => ?_) (AllReadyH.cons rfl (fun K hK => ?_) AllReadyH.nil)
                · have cq := (HC2.out _ (below_drew _)).1
                  go_simp
                  refine hK.out _ _ hS (fun hS2 => ?_)
                  clear hK K
                  refine wpAnyH_ready (rs := [6]) (by kernel_rfl) (by simp) ?_
                  refine AllReadyH.cons rfl (fun K hK => ?_) AllReadyH.nil
                  go_simp
                  rw [← hwy, ← hgy]
                  clear hwy hgy
                  refine hK.out _ _ (SX _ HB6.out) (fun hS3 => ?_)
                  clear hK K
                  refine wpAnyH_ready (rs := [7]) (by kernel_rfl) (by simp) ?_
                  refine AllReadyH.cons rfl (fun K hK => ?_) AllReadyH.nil
                  refine step_append_says wy rfl (.tmp 63) (.tmp 65) 53 rfl rfl rfl HRUN.out ?_
                  have cq6 := HP.out.2.1.c 0 _ rfl
                  have fq6 := HP.out.2.1.fz 0
                  refine hK.out _ _ (hid (fun j u hj => HP.out.2.2.2.c j u hj)) (fun hS8 => ?_)
                  clear hK K
                  refine wpAnyH_take (i := 8) (v := .pointer (some ⟨q, 0, none⟩)) rfl (by kernel_rfl) (by kernel_rfl) (by kernel_rfl) (fun _ _ _ h => h) (Or.inl ⟨by rfl, fun w hSw => by go_simp⟩) hS8 ?_
                  simp only [Act.put, List.getElem_toArray, List.getElem_cons_succ, List.getElem_cons_zero, List.setIfInBounds_toArray, List.set_cons_zero, List.set_cons_succ]
                  refine wpAnyH_take (i := 9) (v := .pointer (some ⟨q, 0, none⟩)) rfl (by kernel_rfl) (by kernel_rfl) (by kernel_rfl) (fun _ _ _ h => h) (Or.inl ⟨by rfl, fun w hSw => by go_simp⟩) hS8 ?_
                  simp only [Act.put, List.getElem_toArray, List.getElem_cons_succ, List.getElem_cons_zero, List.setIfInBounds_toArray, List.set_cons_zero, List.set_cons_succ]
                  refine wpAnyH_ready (rs := [10]) (by kernel_rfl) (by simp) ?_
                  refine AllReadyH.cons rfl (fun K hK => ?_) AllReadyH.nil
                  go_simp
                  refine hK.out _ _ (hid (fun j u hj => HP.out.2.2.1.c j u hj)) (fun hS9 => ?_)
                  clear hK K
                  refine wpAnyH_done (by kernel_rfl) ?_ _
                  go_wp2_with fail
                  go_meet
                  exact ⟨HP.out.1, HP.out.2.2.1, HKO.out⟩
                · go_simp
                  rw [← hwy, ← hgy]
                  clear hwy hgy
                  refine hK.out _ _ (SX _ HB6.out) (fun hS2 => ?_)
                  clear hK K
                  have cq := (HC2.out _ HB6.out).1
                  refine wpAnyH_ready (rs := [4]) (by kernel_rfl) (by simp) ?_
                  refine AllReadyH.cons rfl (fun K hK => ?_) AllReadyH.nil
                  go_simp
                  refine hK.out _ _ hS2 (fun hS3 => ?_)
                  clear hK K
                  refine wpAnyH_ready (rs := [7]) (by kernel_rfl) (by simp) ?_
                  refine AllReadyH.cons rfl (fun K hK => ?_) AllReadyH.nil
                  refine step_append_says wy rfl (.tmp 63) (.tmp 65) 53 rfl rfl rfl HRUN.out ?_
                  have cq6 := HP.out.2.1.c 0 _ rfl
                  have fq6 := HP.out.2.1.fz 0
                  refine hK.out _ _ (hid (fun j u hj => HP.out.2.2.2.c j u hj)) (fun hS8 => ?_)
                  clear hK K
                  refine wpAnyH_take (i := 8) (v := .pointer (some ⟨q, 0, none⟩)) rfl (by kernel_rfl) (by kernel_rfl) (by kernel_rfl) (fun _ _ _ h => h) (Or.inl ⟨by rfl, fun w hSw => by go_simp⟩) hS8 ?_
                  simp only [Act.put, List.getElem_toArray, List.getElem_cons_succ, List.getElem_cons_zero, List.setIfInBounds_toArray, List.set_cons_zero, List.set_cons_succ]
                  refine wpAnyH_take (i := 9) (v := .pointer (some ⟨q, 0, none⟩)) rfl (by kernel_rfl) (by kernel_rfl) (by kernel_rfl) (fun _ _ _ h => h) (Or.inl ⟨by rfl, fun w hSw => by go_simp⟩) hS8 ?_
                  simp only [Act.put, List.getElem_toArray, List.getElem_cons_succ, List.getElem_cons_zero, List.setIfInBounds_toArray, List.set_cons_zero, List.set_cons_succ]
                  refine wpAnyH_ready (rs := [10]) (by kernel_rfl) (by simp) ?_
                  refine AllReadyH.cons rfl (fun K hK => ?_) AllReadyH.nil
                  go_simp
                  refine hK.out _ _ (hid (fun j u hj => HP.out.2.2.1.c j u hj)) (fun hS9 => ?_)
                  clear hK K
                  refine wpAnyH_done (by kernel_rfl) ?_ _
                  go_wp2_with fail
                  go_meet
                  exact ⟨HP.out.1, HP.out.2.2.1, HKO.out⟩
              case rest =>
                obtain ⟨hr, hx, hk, hb⟩ := hcut
                have H4 : Hid (RW B q wc (L ++ [((⟨⟨fl, se, sq, gr, la⟩, bd⟩, ao, c) : SP)]) (.slice a6 (L.length + 1) c6) op ∧ Box wc W.heap.size #[.int .i64 fl, .int .i64 se, .int .i64 sq, .int .i64 gr, .slice ao la.length c, .string bd] 74 ∧ KeepsOthers W wc ∧ ∀ n0, n0 ≤ q → n0 ≤ W.heap.size → Below n0 W wc) := ⟨hr, hx, hk, hb⟩
                clear hr hx hk hb HP HKO HC2 HB6 H3 HRUN hwy hgy
                have y4 := H4.out.2.1.c 4 _ rfl
                by_cases hla : la = []
                · subst hla
                  go_wp2_with fail
                  go_ret
                  refine ⟨fun k => absurd (HTT.out.trans hT0.out) k, fun _ => ⟨rfl, _, H4.out.1, H4.out.2.2⟩⟩
                · have hpos : 0 < la.length := List.length_pos_iff.2 hla
                  obtain ⟨m, hm⟩ : ∃ m, m = la.length - 1 := ⟨_, rfl⟩
                  have hml : (la.length : Int) - 1 = (m : Int) := by omega
                  have hml2 : m < la.length := by omega
                  have hmn : la.length - 1 = m := by omega
                  have hpi : decide ((0 : Int) < (la.length : Int)) = true := decide_eq_true (by omega)
                  have HOP : Hid (opE op la = (la.getD m 0 == 255)) := by
                    show _ = _
                    unfold opE
                    rw [if_neg hla, hm]
                    rfl
                  have hLA : IntsAt wc ao la := (H4.out.1.lac _ (List.mem_append_right _ (List.mem_singleton.2 rfl))).pg.la
                  have hlen := hLA.len
                  have hmb : m ≤ 17592186044415 := by omega
                  obtain ⟨b2, o2, rfl, hcc⟩ := hLA.at m hml2
                  have cx := hcc wc (Below.refl _ _)
                  have cop := H4.out.1.bx.c 1 _ rfl
                  have fop := H4.out.1.bx.fz 1
                  clear hla hm hLA hcc
                  generalize la.getD m 0 = x at *
                  obtain ⟨eb, heb⟩ : ∃ eb, (x == 255) = eb := ⟨_, rfl⟩
                  rw [heb] at HOP
                  go_wp2_with fail
                  go_ret
                  refine ⟨fun k => absurd (HTT.out.trans hT0.out) k, fun _ => ⟨rfl, _, by rw [HOP.out]; exact H4.out.1.setop eb, H4.out.2.2.1.trans (KeepsOthers.setCell _ _ _), fun n0 h1 h2 => (H4.out.2.2.2 n0 h1 h2).setCell (p := ⟨q, 1, none⟩) h1 _⟩⟩
            · have hT2 : Hid (T = 2) := by show _ = _; rw [HT.out, if_neg (fun q => q HM.out), if_neg H65.out, if_neg (fun q => q HS.out), if_pos ho]
              rw [decide_eq_true ho]
              clear ho
              go_wp2_with fail
              go_ret
              exact TkP.err (HTT.out.trans hT2.out) (by decide) H3.out.2.1
        · have hT3 : Hid (T = 3) := by show _ = _; rw [HT.out, if_neg (fun q => q HM.out), if_neg H65.out, if_pos hs]
          rw [decide_eq_true hs]
          clear hs
          go_wp2_with fail
          go_ret
          exact TkP.err (HTT.out.trans hT3.out) (by decide) H2.out.2.1
  · have hT2 : Hid (T = 2) := by show _ = _; rw [HT.out, if_pos hm]
    rw [decide_eq_false hm]
    clear hm
    go_wp2_with fail
    go_ret
    exact TkP.err (HTT.out.trans hT2.out) (by decide) H1.out.2.1

end Go.Proofs.YtjkamannjgcmiaaDoor
