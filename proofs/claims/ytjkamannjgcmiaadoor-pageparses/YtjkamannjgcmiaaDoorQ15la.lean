/- Own text: the walk of Lace. -/
import Derived.Test.YtjkamannjgcmiaaDoorQ15de
import Derived.Test.YtjkamannjgcmiaaDoorQ15l3
namespace Go.Proofs.YtjkamannjgcmiaaDoor
open Go.RowKit
set_option linter.unusedSimpArgs false
set_option linter.unusedVariables false

theorem elem15 : Tryd.prog.elem 37 = 3 := by kernel_rfl
theorem undE15 : Tryd.prog.underlying 37 = some (.slice (Tryd.prog.elem 37)) := by rw [elem15]; exact Tryd.underlying37
theorem size15 (w : World) : (sizeOf 3).run Tryd.prog w = .ok 1 w := by kernel_rfl
theorem slice_to (l : List Int) (a : Option Addr) (c f : Nat) (hf : f ≤ l.length) (hc : l.length ≤ c) : ∃ a1 c1, (∀ w, (Instr.slice 37 (.slice a l.length c) none (some (.int .i64 (f : Int))) none).run Tryd.prog w = .ok (.slice a1 f c1) w) ∧ ∀ w, IntsAt w a l → IntsAt w a1 (l.take f) := by
  refine ⟨if c = 0 then a else a.map (·.add (0 * 1)), c, fun w => ?_, fun w h => ?_⟩
  · rw [run_slice_h w 37 a l.length c undE15 .i64 (f : Int) (by omega) (by omega), elem15, size15]
    simp only [Result.andThen, sliced, Int.toNat_natCast, Nat.sub_zero]
  · have := h.part 0 f (by omega) (if c = 0 then a else a.map (·.add (0 * 1))) (fun b off e hn => by
      rw [if_neg (by omega), e]
      rfl)
    rwa [List.drop_zero] at this
theorem slice_off (l : List Int) (a : Option Addr) (c f : Nat) (hf : f ≤ l.length) (hc : l.length ≤ c) : ∃ a1 c1, (∀ w, (Instr.slice 37 (.slice a l.length c) (some (.int .i64 (f : Int))) none none).run Tryd.prog w = .ok (.slice a1 (l.drop f).length c1) w) ∧ ∀ w, IntsAt w a l → IntsAt w a1 (l.drop f) := by
  refine ⟨if c = f then a else a.map (·.add (f * 1)), c - f, fun w => ?_, fun w h => ?_⟩
  · rw [run_slice_l w 37 a l.length c undE15 .i64 (f : Int) (by omega) (by omega), elem15, size15, List.length_drop]
    simp only [Result.andThen, sliced, Int.toNat_natCast]
  · have := h.part f (l.length - f) (by omega) (if c = f then a else a.map (·.add (f * 1))) (fun b off e hn => by
      rw [if_neg (by omega), e]
      simp [Addr.add])
    rwa [List.take_of_length_le (by rw [List.length_drop]; omega)] at this
/-- Rows behind rows. -/
theorem run_rows (w : World) (ty : TypeId) (B C : Nat) (v1 v2 : Value) (Q1 Q2 : List LP) (h1 : w.ownsRow B 37 1 v1 Q1.length (lcsC Q1)) (h2 : w.ownsRow C 37 1 v2 Q2.length (lcsC Q2)) (hB : B ≤ w.heap.size) (hl1 : Q1.length ≤ 50000) (hl2 : Q2.length ≤ 50000) :
    ∃ v' w', (Builtin.append_ #[45, 45] ty #[v1, v2]).run Tryd.prog w = .ok v' w' ∧ w'.ownsRow B 37 1 v' (Q1 ++ Q2).length (lcsC (Q1 ++ Q2)) ∧ w.grownBy w' v1.ownBlock ∧ (v'.ownBlock = v1.ownBlock ∨ v'.ownBlock = some w.heap.size) := by
  obtain ⟨iR, hR0, hR1, hR2, hR3⟩ := info_parts5 infoR5
  by_cases h0 : Q2 = []
  · subst h0
    obtain ⟨a1, c1, e1, _, hle, _⟩ := owns_shape h1
    obtain ⟨a2, c2, e2⟩ := owns_sl h2
    subst e1 e2
    rw [List.append_nil]
    refine ⟨_, w, run_append_nothing w _ _ ty 37 iR Tryd.underlying45 hR0 a1 Q1.length c1 hle _ ?_, h1, grown_below (Below.refl _ _) _, .inl rfl⟩
    rw [hR2]
    cases a2 with
    | none => exact Src.ofNil w Tryd.underlying45 c2
    | some a => exact Src.ofSlice w Tryd.underlying45 a 0 c2 [] rfl (fun j u h => by cases h) (fun u h => by cases h)
  · obtain ⟨g, c2, e2⟩ := owns_some h2 (List.length_pos_iff.2 h0)
    subst e2
    have hq : (lcsC Q2).length = Q2.length * 1 := by simp [lcsC]
    obtain ⟨v', w', hrun, r1, r2, _, r4⟩ := run_append_own_at (P := Tryd.prog) w B 45 ty 37 iR (.slice none 0 0) 1 24 Tryd.underlying45 hR0 hR1 hR2 hR3 rfl (by decide) v1 Q1.length (lcsC Q1) h1 ⟨g, 0, none⟩ Q2.length c2 (lcsC Q2) hq (fun j u hu => by
      have hj := (List.getElem?_eq_some_iff.1 hu).1
      rw [Addr.add_mid, Nat.zero_add, h2.cellAt j (by omega)]
      exact hu) (fun u hu => by obtain ⟨q, _, rfl⟩ := List.mem_map.1 hu; rfl) (by simp only [maxLen]; omega) (by omega) hB
    refine ⟨v', w', hrun, ?_, r2, r4⟩
    rw [List.length_append, show lcsC (Q1 ++ Q2) = lcsC Q1 ++ lcsC Q2 from by simp [lcsC]]
    exact r1

set_option maxRecDepth 20000 in
set_option maxHeartbeats 1600000 in
theorem j_Lace (l : List Int) (a : Option Addr) (c : Nat) (mo : Int) (w : World) (hl : IntsAt w a l) (hc : l.length ≤ c) (hn : l.length ≤ 60) (hz : ∀ x ∈ l, x ≤ 70000) : Calls Tryd.prog 18 #[.slice a l.length c, .int .i64 mo] w fun e w' => (∃ ao cap, e = .returned (.slice ao (lacP (mostN mo) (szN l)).length cap) ∧ RowsAt w' ao (lacP (mostN mo) (szN l)) ∧ (lacP (mostN mo) (szN l)).length ≤ cap ∧ (ao = none → cap = 0)) ∧ Below w.heap.size w w' := by
  obtain ⟨m, hm⟩ : ∃ m, m = mostN mo := ⟨_, rfl⟩
  have hmb := mostN_b mo
  rw [← hm] at hmb ⊢
  obtain ⟨p, hp⟩ : ∃ p, p = (if mo < 1 then (1 : Int) else mo) := ⟨_, rfl⟩
  have m1 : (if mo < 1 then (1 : Int) else mo) = p := hp.symm
  have m2 : (if (255 : Int) < p then (255 : Int) else p) = (m : Int) := by
    rw [hm, hp]
    unfold mostN
    by_cases h : mo < 1
    · simp [h]
    · by_cases h2 : (255 : Int) < mo
      · simp [h, h2]
      · simp [h, h2]; omega
  obtain ⟨f, hf⟩ : ∃ f, f = min 1 l.length := ⟨_, rfl⟩
  have f1 : (if (l.length : Int) < 1 then (l.length : Int) else 1) = (f : Int) := by split <;> omega
  have f2 : f ≤ l.length := by omega
  obtain ⟨a1, c1, sl1, hi1⟩ := slice_to l a c f f2 hc
  obtain ⟨a2, c2, sl2, hi2⟩ := slice_off l a c f f2 hc
  have tl : (l.take f).length = f := by rw [List.length_take]; omega
  have k1 := j_dealt (l.take f) a1 c1 m hmb.1 hmb.2
  rw [tl] at k1
  have K1 : Hid (∀ wx, Below w.heap.size w wx → Calls Tryd.prog 33 #[.slice a1 f c1, .int .i64 (m : Int)] wx fun e w' => DeP wx m (l.take f) e w') := fun wx hb => k1 wx ((hi1 w hl).below hb) (by omega) (fun x hx => hz x (List.mem_of_mem_take hx))
  have K2 : Hid (∀ wx, Below w.heap.size w wx → Calls Tryd.prog 33 #[.slice a2 (l.drop f).length c2, .int .i64 (m : Int)] wx fun e w' => DeP wx m (l.drop f) e w') := fun wx hb => j_dealt (l.drop f) a2 c2 m hmb.1 hmb.2 wx ((hi2 w hl).below hb) (by rw [List.length_drop]; omega) (fun x hx => hz x (List.mem_of_mem_drop hx))
  have HE : Hid (lacP m (szN l) = dlP m (lfL (l.take f)) ++ dlP m (lfL (l.drop f))) := by
    show _ = _
    rw [lacP_deal]
    have q1 : (szN l).take 1 = szN (l.take f) := by
      unfold szN
      rw [← List.map_take]
      congr 1
      rcases Nat.eq_zero_or_pos l.length with h | h
      · rw [List.length_eq_zero_iff.1 h]; simp
      · rw [show f = 1 by omega]
    have q2 : (szN l).drop 1 = szN (l.drop f) := by
      unfold szN
      rw [← List.map_drop]
      congr 1
      rcases Nat.eq_zero_or_pos l.length with h | h
      · rw [List.length_eq_zero_iff.1 h]; simp
      · rw [show f = 1 by omega]
    rw [q1, q2]
    rfl
  have HFIN : Hid (∀ v Q w', w'.ownsRow w.heap.size 37 1 v Q.length (lcsC Q) → (∀ q ∈ Q, LsAt w' q v noS) → Q.map Prod.fst = lacP m (szN l) → Q.length ≤ 100000 → Below w.heap.size w w' → (∃ ao cap, Ending.returned v = .returned (.slice ao (lacP m (szN l)).length cap) ∧ RowsAt w' ao (lacP m (szN l)) ∧ (lacP m (szN l)).length ≤ cap ∧ (ao = none → cap = 0)) ∧ Below w.heap.size w w') := fun v Q w' ho hla he hq hb => by
    have hls : LS w w' Q v [] noS := ⟨ho, World.ownsRow_nil _ _ _ _, hla, fun b hb => (fun e => by cases e), fun x hx => by simp at hx, hb⟩
    obtain ⟨ao, cap, e1, g1, g2, g3⟩ := hls.rows (by omega)
    rw [he] at g1
    have hlen : Q.length = (lacP m (szN l)).length := by rw [← he, List.length_map]
    rw [hlen] at e1 g2
    exact ⟨⟨ao, cap, by rw [e1], g1, g2, g3⟩, hb⟩
  clear hi1 hi2 k1 tl hl hz hc hm hf hmb f2 hp
  generalize (l.drop f).length = n2 at *
  go_enter Tryd.func18, Tryd.ntmps18
  go_upto_region 3 with fail
  clear m1 m2 f1
  refine wp_region_held_drew (S := fun wx => Hid (Below w.heap.size w wx)) (by kernel_rfl) (hid (below_drew _)) (fun hS => ?_)
  refine wpAnyH_take (i := 0) (v := .slice a l.length c) rfl (by kernel_rfl) (by kernel_rfl) (by kernel_rfl) (fun _ _ _ h => h) (Or.inl ⟨by rfl, fun w hSw => by go_simp⟩) hS ?_
  simp only [Act.put, List.getElem_toArray, List.getElem_cons_succ, List.getElem_cons_zero, List.setIfInBounds_toArray, List.set_cons_zero, List.set_cons_succ]
  refine wpAnyH_take (i := 1) (v := .int .i64 (f : Int)) rfl (by kernel_rfl) (by kernel_rfl) (by kernel_rfl) (fun _ _ _ h => h) (Or.inl ⟨by rfl, fun w hSw => by go_simp⟩) hS ?_
  simp only [Act.put, List.getElem_toArray, List.getElem_cons_succ, List.getElem_cons_zero, List.setIfInBounds_toArray, List.set_cons_zero, List.set_cons_succ]
  refine wpAnyH_take (i := 2) (v := .slice a1 f c1) rfl (by kernel_rfl) (by kernel_rfl) (by kernel_rfl) (fun _ _ _ h => h) (Or.inl ⟨by rfl, fun w hSw => by go_simp⟩) hS ?_
  simp only [Act.put, List.getElem_toArray, List.getElem_cons_succ, List.getElem_cons_zero, List.setIfInBounds_toArray, List.set_cons_zero, List.set_cons_succ]
  refine wpAnyH_take (i := 3) (v := .int .i64 (m : Int)) rfl (by kernel_rfl) (by kernel_rfl) (by kernel_rfl) (fun _ _ _ h => h) (Or.inl ⟨by rfl, fun w hSw => by go_simp⟩) hS ?_
  simp only [Act.put, List.getElem_toArray, List.getElem_cons_succ, List.getElem_cons_zero, List.setIfInBounds_toArray, List.set_cons_zero, List.set_cons_succ]
  refine wpAnyH_take (i := 5) (v := .slice a l.length c) rfl (by kernel_rfl) (by kernel_rfl) (by kernel_rfl) (fun _ _ _ h => h) (Or.inl ⟨by rfl, fun w hSw => by go_simp⟩) hS ?_
  simp only [Act.put, List.getElem_toArray, List.getElem_cons_succ, List.getElem_cons_zero, List.setIfInBounds_toArray, List.set_cons_zero, List.set_cons_succ]
  refine wpAnyH_take (i := 6) (v := .int .i64 (f : Int)) rfl (by kernel_rfl) (by kernel_rfl) (by kernel_rfl) (fun _ _ _ h => h) (Or.inl ⟨by rfl, fun w hSw => by go_simp⟩) hS ?_
  simp only [Act.put, List.getElem_toArray, List.getElem_cons_succ, List.getElem_cons_zero, List.setIfInBounds_toArray, List.set_cons_zero, List.set_cons_succ]
  refine wpAnyH_take (i := 7) (v := .slice a2 n2 c2) rfl (by kernel_rfl) (by kernel_rfl) (by kernel_rfl) (fun _ _ _ h => h) (Or.inl ⟨by rfl, fun w hSw => by go_simp⟩) hS ?_
  simp only [Act.put, List.getElem_toArray, List.getElem_cons_succ, List.getElem_cons_zero, List.setIfInBounds_toArray, List.set_cons_zero, List.set_cons_succ]
  refine wpAnyH_take (i := 8) (v := .int .i64 (m : Int)) rfl (by kernel_rfl) (by kernel_rfl) (by kernel_rfl) (fun _ _ _ h => h) (Or.inl ⟨by rfl, fun w hSw => by go_simp⟩) hS ?_
  simp only [Act.put, List.getElem_toArray, List.getElem_cons_succ, List.getElem_cons_zero, List.setIfInBounds_toArray, List.set_cons_zero, List.set_cons_succ]
  refine wpAnyH_ready (rs := [4]) (by kernel_rfl) (by simp) ?_
  refine AllReadyH.cons rfl (fun K hK => ?_) AllReadyH.nil
  go_simp
  refine (K1.out _ (below_drew _)).mono ?_
  rintro e w1 ⟨v1, Q1, rfl, o1, la1, e1, n1, b1, lo1⟩
  have H1 : Hid (w1.ownsRow w.heap.size 37 1 v1 Q1.length (lcsC Q1) ∧ (∀ q ∈ Q1, LsAt w1 q v1 noS) ∧ Q1.map Prod.fst = dlP m (lfL (l.take f)) ∧ Q1.length ≤ 50000 ∧ Below w.heap.size w w1) := ⟨o1, la1, e1, n1, (below_drew w).trans b1⟩
  refine hK.out _ _ (hid H1.out.2.2.2.2) (fun hS2 => ?_)
  clear hK K hS o1 la1 e1 n1 b1 lo1 K1
  refine wpAnyH_ready (rs := [9]) (by kernel_rfl) (by simp) ?_
  refine AllReadyH.cons rfl (fun K hK => ?_) AllReadyH.nil
  go_simp
  refine (K2.out _ H1.out.2.2.2.2).mono ?_
  rintro e w2 ⟨v2, Q2, rfl, o2, la2, e2, n2b, b2, lo2⟩
  have H2 : Hid (w2.ownsRow w1.heap.size 37 1 v2 Q2.length (lcsC Q2) ∧ (∀ q ∈ Q2, LsAt w2 q v2 noS) ∧ Q2.map Prod.fst = dlP m (lfL (l.drop f)) ∧ Q2.length ≤ 50000 ∧ Below w1.heap.size w1 w2 ∧ ∀ q ∈ Q2, ∀ b, blockOf q.2.1 = some b → w1.heap.size ≤ b) := ⟨o2, la2, e2, n2b, b2, lo2⟩
  have hb2 : Below w.heap.size w w2 := below_on H1.out.2.2.2.2 H1.out.2.2.2.2.size b2
  refine hK.out _ _ (hid hb2) (fun hS3 => ?_)
  clear hK K hS2 o2 la2 e2 n2b b2 lo2 K2
  have HB2 := hid hb2
  obtain ⟨v3, w3, hrun, r1, r2, r4⟩ := run_rows w2 45 w.heap.size w1.heap.size v1 v2 Q1 Q2 (owns_below H1.out.1 H2.out.2.2.2.2.1) H2.out.1 hb2.size H1.out.2.2.2.1 H2.out.2.2.2.1
  have H3 : Hid ((∃ ao cap, Ending.returned v3 = .returned (.slice ao (lacP m (szN l)).length cap) ∧ RowsAt w3 ao (lacP m (szN l)) ∧ (lacP m (szN l)).length ≤ cap ∧ (ao = none → cap = 0)) ∧ Below w.heap.size w w3) := by
    refine HFIN.out v3 (Q1 ++ Q2) w3 r1 (fun q hq => ?_) (by rw [List.map_append, H1.out.2.2.1, H2.out.2.2.1, HE.out]) (by rw [List.length_append]; have := H1.out.2.2.2.1; have := H2.out.2.2.2.1; omega) (grown_to r2 hb2 hb2.size (fun k e => (H1.out.1.lt k e).1))
    rcases List.mem_append.1 hq with hq | hq
    · exact ((H1.out.2.1 q hq).low H2.out.2.2.2.2.1).grow5 r2 r4
    · have hl2 := H2.out.2.1 q hq
      refine LsAt.grow5 (v5 := v1) (v6 := noS) ⟨hl2.la, hl2.le, hl2.no, fun b hb => ⟨(hl2.ap b hb).1, fun e => ?_, fun e => by cases e⟩⟩ r2 r4
      have := (H1.out.1.lt b e).2
      have := H2.out.2.2.2.2.2 q hq b hb
      omega
  have HR : Hid ((Builtin.append_ #[45, 45] 45 #[v1, v2]).run Tryd.prog w2 = .ok v3 w3) := hrun
  clear hrun r1 r2 r4 hb2
  refine wpAnyH_ready (rs := [10]) (by kernel_rfl) (by simp) ?_
  refine AllReadyH.cons rfl (fun K hK => ?_) AllReadyH.nil
  refine step_append_says w2 rfl (.tmp 16) (.tmp 21) 45 rfl rfl rfl HR.out ?_
  refine hK.out _ _ (hid H3.out.2) (fun hS4 => ?_)
  clear hK K hS3
  refine wpAnyH_take (i := 11) (v := v3) rfl (by kernel_rfl) (by kernel_rfl) (by kernel_rfl) (fun _ _ _ h => h) (Or.inl ⟨by rfl, fun w hSw => by go_simp⟩) hS4 ?_
  simp only [Act.put, List.getElem_toArray, List.getElem_cons_succ, List.getElem_cons_zero, List.setIfInBounds_toArray, List.set_cons_zero, List.set_cons_succ]
  refine wpAnyH_done (by kernel_rfl) ?_ _
  go_wp2_with fail
  go_ret
  exact H3.out

end Go.Proofs.YtjkamannjgcmiaaDoor
