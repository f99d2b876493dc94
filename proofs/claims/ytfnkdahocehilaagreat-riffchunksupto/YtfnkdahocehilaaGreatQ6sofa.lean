/- Own text: the walk of soundOf. -/
import Derived.Test.YtfnkdahocehilaaGreatG19x
namespace Go.Proofs.YtfnkdahocehilaaGreat
open Go.RowKit
set_option linter.unusedSimpArgs false
set_option linter.unusedVariables false

set_option maxRecDepth 20000 in
set_option maxHeartbeats 3200000 in
theorem soundOf_a (s : ByteArray) (hs : s.size ≤ 140737488351232) (h : 16 ≤ s.size) (htg : (tagI s != 1) = false) (hg : (tagI s != tagN s.size) = false) (w : World) :
    Calls Tryz.prog 116 #[.string s] w fun e w' => e = .returned (.tuple #[sndV (sndA s), .int .i64 (sndE s)]) ∧ Below w.heap.size w w' := by
  have HN : Hid ((w.alloc (.cells zeroS 73)).heap[w.heap.size]? = some (.cells zeroS 73 (0, 0))) := heap_alloc_new w _
  have HB : Hid (Below w.heap.size w (w.alloc (.cells zeroS 73))) := (Below.refl _ _).alloc (Nat.le_refl _) _
  have kt := fun w => fromLe_spec (s.extract 0 2) (by rw [ext_size _ _ _ (by omega) (by omega)]; decide) w
  have HT : Hid (tagI s = fromBe (bytesOf (s.extract 0 2)).reverse) := rfl
  have kg := fun w => tagOf_spec s.size w
  have KF : Hid (∀ x wx, Hid (x.size ≤ 8) → Calls Tryz.prog 81 #[.string x] wx fun e w' => e = .returned (.int .i64 (leI x)) ∧ w' = wx) := fun x wx hx => fromLe_spec x (by have := hx.out; omega) wx
  have Z1 : Hid ((s.extract 2 4).size ≤ 8) := by show _ ≤ _; rw [ext_size _ _ _ (by omega) (by omega)]; decide
  have Z2 : Hid ((s.extract 4 8).size ≤ 8) := by show _ ≤ _; rw [ext_size _ _ _ (by omega) (by omega)]; decide
  have Z3 : Hid ((s.extract 14 16).size ≤ 8) := by show _ ≤ _; rw [ext_size _ _ _ (by omega) (by omega)]; decide
  have hs1 : ∀ w, (Instr.slice 9 (.string s) (some (.int .i64 2)) (some (.int .i64 4)) none).run Tryz.prog w = .ok (.string (s.extract 2 4)) w := fun w => slice_run s 2 4 (by omega) (by omega) w
  have hs2 : ∀ w, (Instr.slice 9 (.string s) (some (.int .i64 4)) (some (.int .i64 8)) none).run Tryz.prog w = .ok (.string (s.extract 4 8)) w := fun w => slice_run s 4 8 (by omega) (by omega) w
  have hs3 : ∀ w, (Instr.slice 9 (.string s) (some (.int .i64 14)) (some (.int .i64 16)) none).run Tryz.prog w = .ok (.string (s.extract 14 16)) w := fun w => slice_run s 14 16 (by omega) (by omega) w
  have HE : Hid (sndE s = if (sndR s).ch == 0 || ((sndR s).rate == 0 || (sndR s).wd == 0) then 2 else if supB (sndR s) then agaE (sndR s) s else 3) := by
    show _ = _
    unfold sndE
    rw [if_neg (by omega), hg, htg]
    rfl
  have HG : Hid ((sndR s).ch ≠ 0 → (sndR s).rate ≠ 0 → (sndR s).wd ≠ 0 → supB (sndR s) = true → GoodS (sndR s)) := fun q1 q2 q3 q4 => good_of s h q4
  have HFL : Hid (fmtLen s.size) := fmtLen_of s (Or.inl (by simpa using htg)) (by simpa using hg)
  have HAD : Hid (sndA s = if sndE s = 0 then sndR s else noSnd) := rfl
  rw [HT.out] at htg hg
  generalize fromBe (bytesOf (s.extract 0 2)).reverse = TG at *
  generalize tagN s.size = TN at *
  go_enter Tryz.func116, Tryz.ntmps116
  go_wp2_with fail
  refine (kt _).mono ?_
  rintro e w2 ⟨rfl, rfl⟩
  clear kt
  go_wp2_with fail
  refine (kg _).mono ?_
  rintro e w2 ⟨rfl, rfl⟩
  clear kg
  go_upto_region 8 with fail
  generalize hwa : World.alloc w _ = wa
  have HA : Hid (wa.heap[w.heap.size]? = some (.cells zeroS 73 (0, 0)) ∧ Below w.heap.size w wa) := by
    rw [← hwa]
    exact ⟨HN.out, HB.out⟩
  clear hwa HN HB
  go_cut [5] from 27 to 36 (fun v wx => ∃ Q, v = Value.pointer (some ⟨Q, 0, none⟩) ∧ Js w (sndR s) Q wx)
  case first =>
    have HJ : Hid (Js w (sndR s) wa.heap.size (wa.alloc (.cells #[.int .i64 (leI (s.extract 4 8)), .int .i64 (leI (s.extract 2 4)), .int .i64 (leI (s.extract 14 16))] 73)).drew) := by
      have hB : Below wa.heap.size wa (wa.alloc (.cells #[.int .i64 (leI (s.extract 4 8)), .int .i64 (leI (s.extract 2 4)), .int .i64 (leI (s.extract 14 16))] 73)).drew := ((Below.refl _ _).alloc (Nat.le_refl _) _).drew
      exact ⟨(hB.block _ (lt_of_block HA.out.1)).trans HA.out.1, heap_alloc_new wa _, lt_of_block HA.out.1, HA.out.2.trans (hB.mono HA.out.2.size)⟩
    go_region_held3 (fun _ => True) (trivial)
      ((go_at_call 81; refine (KF.out _ _ (by assumption)).mono ?_; rintro e w4 ⟨rfl, rfl⟩))
    all_goals (go_wp2_with fail; go_meet)
    all_goals exact ⟨_, rfl, HJ.out⟩
  case rest =>
    obtain ⟨Q, rfl, hj⟩ := hcut
    have H4 : Hid (Js w (sndR s) Q wc) := hj
    clear hj hs1 hs2 hs3 KF Z1 Z2 Z3 HA HT
    obtain ⟨A, hA⟩ : ∃ A, sndR s = A := ⟨_, rfl⟩
    have HAR : Hid (sndR s = A) := hA
    rw [hA] at H4 HE HG
    clear hA
    have lo := H4.out.lo
    have r0 := H4.out.s 0 _ rfl
    have r1 := H4.out.s 1 _ rfl
    have r2 := H4.out.s 2 _ rfl
    have c0 := H4.out.c 0 _ rfl
    have c1 := H4.out.c 1 _ rfl
    have c2 := H4.out.c 2 _ rfl
    have z0 := H4.out.z 0
    have z1 := H4.out.z 1
    have z2 := H4.out.z 2
    have HO := H4.out.out (.int .i64 0) (.int .i64 0) (.int .i64 0)
    have HOH : Hid _ := HO
    clear HO
    cases h1 : A.ch == 0
    · cases h2 : A.rate == 0
      · cases h3 : A.wd == 0
        · cases h4 : supB A
          · -- not supported
            have HR : Hid (sndE s = 3) := HE.out.trans (by rw [h1, h2, h3, h4]; rfl)
            have HR2 : Hid (sndA s = noSnd) := HAD.out.trans (by rw [HR.out]; rfl)
            have ks := isSupported_spec A wc
            rw [h4] at ks
            clear HG
            go_wp2_with fail
            refine ks.mono ?_
            rintro e w5 ⟨rfl, hB5⟩
            have H5 : Hid (Js w A Q w5) := H4.out.next hB5
            clear ks hB5 H4 HOH r0 r1 r2 c0 c1 c2 z0 z1 z2
            have c0 := H5.out.c 0 _ rfl
            have c1 := H5.out.c 1 _ rfl
            have c2 := H5.out.c 2 _ rfl
            have z0 := H5.out.z 0
            have z1 := H5.out.z 1
            have z2 := H5.out.z 2
            obtain ⟨g1, g2⟩ := H5.out.out (.int .i64 0) (.int .i64 0) (.int .i64 0)
            have G1 : Hid _ := g1
            have G2 : Hid _ := g2
            clear g1 g2
            go_wp2_with fail
            exact bodyPost_ret (v := .tuple #[.agg zeroS, .int .i64 3]) (snd_ret G1.out rfl _ _ rfl rfl) rfl ⟨by rw [HR.out, HR2.out]; rfl, G2.out⟩
          · -- supported
            have hgood := HG.out (by simpa using h1) (by simpa using h2) (by simpa using h3) h4
            have ks := isSupported_spec A wc
            rw [h4] at ks
            have ka := against_spec A hgood s HFL.out
            have HR : Hid (sndE s = agaE A s) := HE.out.trans (by rw [h1, h2, h3, h4]; rfl)
            clear HG hgood
            generalize agaE A s = AE at *
            go_wp2_with fail
            refine ks.mono ?_
            rintro e w5 ⟨rfl, hB5⟩
            have H5 : Hid (Js w A Q w5) := H4.out.next hB5
            clear ks hB5 H4 HOH r0 r1 r2 c0 c1 c2 z0 z1 z2
            have r0 := H5.out.s 0 _ rfl
            have r1 := H5.out.s 1 _ rfl
            have r2 := H5.out.s 2 _ rfl
            go_wp2_with fail
            refine (ka w5).mono ?_
            rintro e w6 ⟨rfl, hB6⟩
            have H6 : Hid (Js w A Q w6) := H5.out.next hB6
            clear ka hB6 H5 r0 r1 r2
            have r0 := H6.out.s 0 _ rfl
            have r1 := H6.out.s 1 _ rfl
            have r2 := H6.out.s 2 _ rfl
            have c0 := H6.out.c 0 _ rfl
            have c1 := H6.out.c 1 _ rfl
            have c2 := H6.out.c 2 _ rfl
            have z0 := H6.out.z 0
            have z1 := H6.out.z 1
            have z2 := H6.out.z 2
            cases h5 : AE != 0
            · have HR3 : Hid (sndE s = 0) := HR.out.trans (by simpa using h5)
              have HR2 : Hid (sndA s = sndR s) := HAD.out.trans (by rw [HR3.out]; rfl)
              obtain ⟨g1, g2⟩ := H6.out.out (.int .i64 A.rate) (.int .i64 A.ch) (.int .i64 A.wd)
              have G1 : Hid _ := g1
              have G2 : Hid _ := g2
              clear g1 g2
              go_wp2_with fail
              exact bodyPost_ret (v := .tuple #[sndV A, .int .i64 0]) (snd_ret G1.out rfl _ _ rfl rfl) rfl ⟨by rw [HR3.out, HR2.out, HAR.out], G2.out⟩
            · have HR2 : Hid (sndA s = noSnd) := HAD.out.trans (by rw [HR.out, if_neg (by simpa using h5)])
              obtain ⟨g1, g2⟩ := H6.out.out (.int .i64 0) (.int .i64 0) (.int .i64 0)
              have G1 : Hid _ := g1
              have G2 : Hid _ := g2
              clear g1 g2
              go_wp2_with fail
              exact bodyPost_ret (v := .tuple #[.agg zeroS, .int .i64 AE]) (snd_ret G1.out rfl _ _ rfl rfl) rfl ⟨by rw [HR.out, HR2.out]; rfl, G2.out⟩
        · have HR : Hid (sndE s = 2) := HE.out.trans (by rw [h1, h2, h3]; rfl)
          have HR2 : Hid (sndA s = noSnd) := HAD.out.trans (by rw [HR.out]; rfl)
          clear HG
          go_wp2_with fail
          exact bodyPost_ret (v := .tuple #[.agg zeroS, .int .i64 2]) (snd_ret HOH.out.1 rfl _ _ rfl rfl) rfl ⟨by rw [HR.out, HR2.out]; rfl, HOH.out.2⟩
      · have HR : Hid (sndE s = 2) := HE.out.trans (by rw [h1, h2]; rfl)
        have HR2 : Hid (sndA s = noSnd) := HAD.out.trans (by rw [HR.out]; rfl)
        clear HG
        go_wp2_with fail
        exact bodyPost_ret (v := .tuple #[.agg zeroS, .int .i64 2]) (snd_ret HOH.out.1 rfl _ _ rfl rfl) rfl ⟨by rw [HR.out, HR2.out]; rfl, HOH.out.2⟩
    · have HR : Hid (sndE s = 2) := HE.out.trans (by rw [h1]; rfl)
      have HR2 : Hid (sndA s = noSnd) := HAD.out.trans (by rw [HR.out]; rfl)
      clear HG
      go_wp2_with fail
      exact bodyPost_ret (v := .tuple #[.agg zeroS, .int .i64 2]) (snd_ret HOH.out.1 rfl _ _ rfl rfl) rfl ⟨by rw [HR.out, HR2.out]; rfl, HOH.out.2⟩

end Go.Proofs.YtfnkdahocehilaaGreat
