/- Own text: the walk of the document's Check. -/
import Derived.Test.YtfmpiidnemhijaaDoorR13inf
import Derived.Test.YtfmpiidnemhijaaDoorR13cue
namespace Go.Proofs.YtfmpiidnemhijaaDoor
open Go.RowKit
set_option linter.unusedSimpArgs false
set_option linter.unusedVariables false

set_option maxRecDepth 20000 in
set_option maxHeartbeats 3200000 in
theorem xcheck_any (b : Blk) (hs : b.body.size ≤ 140737488351232) (w : World) :
    Calls Tryd.prog 14 #[blkV b] w fun e w' => e = .returned (.int .i64 (chkE b)) ∧ Below w.heap.size w w' := by
  have ki := xinfo_any b.body hs (w.alloc (.cells (blkC b) 36))
  have kc := fun wx => xcue_any b.body hs wx
  have kp := fun wx => xpic_any b.body hs wx
  obtain ⟨ty, s⟩ := b
  have HB : Hid (Below w.heap.size w (w.alloc (.cells (blkC ⟨ty, s⟩) 36))) := (Below.refl _ _).alloc (Nat.le_refl _) _
  have hE : chkE ⟨ty, s⟩ = if ty < 0 ∨ 126 < ty ∨ 16777215 < s.size then 2 else if ty = 0 then infE s else if formB ⟨ty, s⟩ then 0 else 2 := rfl
  have hF : formB ⟨ty, s⟩ = (if ty = 2 then decide (4 ≤ s.size) else if ty = 3 then decide (s.size % 18 = 0) else if ty = 5 then cueB s else if ty = 6 then picB s else true) := rfl
  have hs' : s.size ≤ 140737488351232 := hs
  simp only at ki kc kp
  by_cases h1 : ty < 0 ∨ 126 < ty ∨ 16777215 < s.size
  · have HE : Hid (chkE ⟨ty, s⟩ = 2) := hE.trans (if_pos h1)
    have h1 : ty < 0 ∨ (0 ≤ ty ∧ 126 < ty) ∨ (0 ≤ ty ∧ ty ≤ 126 ∧ (16777215 : Int) < (s.size : Int)) := by omega
    clear hE ki kc kp hF
    rcases h1 with h | ⟨h, h'⟩ | ⟨h, h', h''⟩
    all_goals
      go_enter Tryd.func14, Tryd.ntmps14
      go_wp2_with fail
      go_ret
      exact ⟨by rw [HE.out]; rfl, HB.out⟩
  · rw [if_neg h1] at hE
    have a1 : 0 ≤ ty := by omega
    have a2 : ty ≤ 126 := by omega
    have a3 : (s.size : Int) ≤ 16777215 := by omega
    clear h1
    by_cases h0 : ty = 0
    · have HE : Hid (chkE ⟨ty, s⟩ = infE s) := hE.trans (if_pos h0)
      subst h0
      generalize infE s = E at *
      generalize infR s = R at *
      clear hE hF kc kp
      go_enter Tryd.func14, Tryd.ntmps14
      go_wp2_with fail
      refine ki.mono ?_
      rintro e w2 ⟨rfl, hb2⟩
      have HB2 : Hid (Below w.heap.size w w2) := HB.out.trans (hb2.mono HB.out.size)
      clear hb2 ki
      go_wp2_with fail
      go_ret
      exact ⟨by rw [HE.out]; rfl, HB2.out.alloc HB2.out.size _⟩
    · rw [if_neg h0] at hE
      clear ki
      have b0 : (ty == 0) = false := by rw [beq_eq_false_iff_ne]; exact h0
      by_cases h2 : ty = 2
      · rw [if_pos h2] at hF
        rw [hF] at hE
        subst h2
        clear hF kc kp b0 h0
        by_cases g : 4 ≤ s.size
        · have HE : Hid (chkE ⟨2, s⟩ = 0) := hE.trans (by rw [decide_eq_true g]; rfl)
          have g' : decide ((4 : Int) ≤ (s.size : Int)) = true := decide_eq_true (by omega)
          clear hE g
          go_enter Tryd.func14, Tryd.ntmps14
          go_wp2_with fail
          go_ret
          exact ⟨by rw [HE.out]; rfl, HB.out⟩
        · have HE : Hid (chkE ⟨2, s⟩ = 2) := hE.trans (by rw [decide_eq_false g]; rfl)
          have g' : decide ((4 : Int) ≤ (s.size : Int)) = false := decide_eq_false (by omega)
          have g4 : (s.size : Int) < 4 := by omega
          clear hE g
          go_enter Tryd.func14, Tryd.ntmps14
          go_wp2_with fail
          go_ret
          exact ⟨by rw [HE.out]; rfl, HB.out⟩
      · rw [if_neg h2] at hF
        have b2 : (ty == 2) = false := by rw [beq_eq_false_iff_ne]; exact h2
        by_cases h3 : ty = 3
        · rw [if_pos h3] at hF
          rw [hF] at hE
          subst h3
          clear hF kc kp b0 h0 b2 h2
          by_cases g : s.size % 18 = 0
          · have HE : Hid (chkE ⟨3, s⟩ = 0) := hE.trans (by rw [decide_eq_true g]; rfl)
            have g' : ((s.size : Int) % 18 == 0) = true := by rw [beq_iff_eq]; omega
            clear hE g
            go_enter Tryd.func14, Tryd.ntmps14
            go_wp2_with fail
            go_ret
            exact ⟨by rw [HE.out]; rfl, HB.out⟩
          · have HE : Hid (chkE ⟨3, s⟩ = 2) := hE.trans (by rw [decide_eq_false g]; rfl)
            have g' : ((s.size : Int) % 18 == 0) = false := by rw [beq_eq_false_iff_ne]; omega
            clear hE g
            go_enter Tryd.func14, Tryd.ntmps14
            go_wp2_with fail
            go_ret
            exact ⟨by rw [HE.out]; rfl, HB.out⟩
        · rw [if_neg h3] at hF
          have b3 : (ty == 3) = false := by rw [beq_eq_false_iff_ne]; exact h3
          by_cases h5 : ty = 5
          · rw [if_pos h5] at hF
            rw [hF] at hE
            subst h5
            clear hF kp b0 h0 b2 h2 b3 h3
            cases g : cueB s
            · have HE : Hid (chkE ⟨5, s⟩ = 2) := hE.trans (by rw [g]; rfl)
              rw [g] at kc
              clear hE g
              go_enter Tryd.func14, Tryd.ntmps14
              go_wp2_with fail
              refine (kc _).mono ?_
              rintro e w2 ⟨rfl, hw2⟩
              subst hw2
              clear kc
              go_wp2_with fail
              go_ret
              exact ⟨by rw [HE.out]; rfl, HB.out⟩
            · have HE : Hid (chkE ⟨5, s⟩ = 0) := hE.trans (by rw [g]; rfl)
              rw [g] at kc
              clear hE g
              go_enter Tryd.func14, Tryd.ntmps14
              go_wp2_with fail
              refine (kc _).mono ?_
              rintro e w2 ⟨rfl, hw2⟩
              subst hw2
              clear kc
              go_wp2_with fail
              go_ret
              exact ⟨by rw [HE.out]; rfl, HB.out⟩
          · rw [if_neg h5] at hF
            have b5 : (ty == 5) = false := by rw [beq_eq_false_iff_ne]; exact h5
            by_cases h6 : ty = 6
            · rw [if_pos h6] at hF
              rw [hF] at hE
              subst h6
              clear hF kc b0 h0 b2 h2 b3 h3 b5 h5
              cases g : picB s
              · have HE : Hid (chkE ⟨6, s⟩ = 2) := hE.trans (by rw [g]; rfl)
                rw [g] at kp
                clear hE g
                go_enter Tryd.func14, Tryd.ntmps14
                go_wp2_with fail
                refine (kp _).mono ?_
                rintro e w2 ⟨rfl, hw2⟩
                subst hw2
                clear kp
                go_wp2_with fail
                go_ret
                exact ⟨by rw [HE.out]; rfl, HB.out⟩
              · have HE : Hid (chkE ⟨6, s⟩ = 0) := hE.trans (by rw [g]; rfl)
                rw [g] at kp
                clear hE g
                go_enter Tryd.func14, Tryd.ntmps14
                go_wp2_with fail
                refine (kp _).mono ?_
                rintro e w2 ⟨rfl, hw2⟩
                subst hw2
                clear kp
                go_wp2_with fail
                go_ret
                exact ⟨by rw [HE.out]; rfl, HB.out⟩
            · rw [if_neg h6] at hF
              have b6 : (ty == 6) = false := by rw [beq_eq_false_iff_ne]; exact h6
              rw [hF] at hE
              have HE : Hid (chkE ⟨ty, s⟩ = 0) := hE.trans rfl
              clear hE hF kc kp h0 h2 h3 h5 h6
              go_enter Tryd.func14, Tryd.ntmps14
              go_wp2_with fail
              go_ret
              exact ⟨by rw [HE.out]; rfl, HB.out⟩

end Go.Proofs.YtfmpiidnemhijaaDoor
