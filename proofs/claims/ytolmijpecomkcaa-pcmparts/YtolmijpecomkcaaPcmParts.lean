/-
  Own text: for every list of PCMs and every two numbers: the program joins them, and cuts each of them, as the document does; what it answers is new, and the PCMs stay as they were. No condition.
-/
import Derived.Test.YtolmijpecomkcaaP5parts
import Derived.Test.YtolmijpecomkcaaQ5awake
import Derived.Test.YtolmijpecomkcaaQ5same
import Derived.Test.YtolmijpecomkcaaP5args2
import Derived.Deep.RegionHeld3
import Derived.WalkKit
import Derived.ProofKit
import Derived.OpenShut
import Derived.ShutString
import Derived.ChangeOld
import Derived.Below
import Derived.SizedLaws

namespace Go.Proofs.Ytolmijpecomkcaa.pcmParts
open Go.ChangeShapes Go.WideShapes Go.ChangeAt Go.RowKit
open Go.ChangeMaps (open_string shut_string)
set_option linter.unusedSimpArgs false
set_option linter.unusedVariables false

theorem own : ownKnob Try.prog.godebug = none := by kernel_rfl
theorem laidOut : laidOutB Try.prog = true := by kernel_rfl

structure Bt (w0 w3 : World) (qs : List (Nat × Pcm × Option Addr × Nat)) (w : World) : Prop where
  bs : Bs w0 qs w
  b3 : Below w3.heap.size w3 w
theorem Bt.next {w0 w3 w w' : World} {qs : List (Nat × Pcm × Option Addr × Nat)} (h : Bt w0 w3 qs w) (hB : Below w.heap.size w w') : Bt w0 w3 qs w' := ⟨h.bs.next hB, h.b3.trans (hB.mono h.b3.size)⟩

set_option maxRecDepth 20000 in
set_option maxHeartbeats 6400000 in
theorem walk (l : List Pcm) (lo : Option Addr) (lc : Nat) (f : Int) (f1 : -9223372036854775808 ≤ f) (f2 : f ≤ 9223372036854775807) (t : Int) (t1 : -9223372036854775808 ≤ t) (t2 : t ≤ 9223372036854775807) (w : World) (rl : PcmsAt w lo l) :
    Calls Try.prog 6 #[.slice lo l.length lc, .int .i64 f, .int .i64 t] w fun e w' => e = .returned (.bool true) ∧ Below w.heap.size w w' := by
  have HRL : Hid (PcmsAt w lo l) := rl
  have hlen : l.length ≤ 2932031007403 := rl.len
  have hmk := make_pcms l.length hlen
  have HG0 : Hid (Gv w w.heap.size l.length [] [] (w.alloc (.cells (madeCells zeroP (l.length * 4)) 24))) := Gv.new w l.length hlen
  clear rl
  go_enter Try.func6, Try.ntmps6
  go_wp2_with fail
  generalize hwa : World.alloc _ _ = wa
  have HA : Hid (Gv w w.heap.size l.length [] [] wa) := by
    rw [← hwa]
    exact HG0.out
  clear hwa HG0 hmk
  go_loopw [7, 8] (fun g t8 wr => ∃ i : Nat, i ≤ l.length ∧ t8 = .int .i64 (i : Int) ∧ g = .slice (some ⟨w.heap.size, 0, none⟩) i l.length ∧ ∃ qs, Gv w w.heap.size l.length (l.take i) qs wr) (fun _ t _ => l.length - (intOf t).toNat)
  case atStart => exact ⟨0, Nat.zero_le _, rfl, rfl, [], HA.out⟩
  case round =>
    clear HA
    obtain ⟨i, hi, rfl, rfl, qs, hgv⟩ := hrel
    have HG : Hid (Gv w w.heap.size l.length (l.take i) qs wr) := hgv
    clear hgv
    by_cases hlt : i < l.length
    · obtain ⟨p, hp⟩ : ∃ p, l[i]? = some p := ⟨_, List.getElem?_eq_getElem hlt⟩
      obtain ⟨b, off, a, c, rfl, hcell, hrow, hfair⟩ := HRL.out.at i p hp
      have hw := hcell wr HG.out.below
      have x0 := hw.1
      have x1 := hw.2.1
      have x2 := hw.2.2.1
      have x3 := hw.2.2.2
      have HCEL : Hid (∀ wx, Below w.heap.size w wx → wx.cell? ⟨b, off + i * 4 + 3, none⟩ = some (.slice a p.pl.length c)) := fun wx hx => (hcell wx hx).2.2.2
      have HROW : Hid (RowsAt w a p.pl) := hrow
      have HC0 : Hid (Cw wr p noS [] [] (wr.alloc (.cells #[.int .i64 p.rate, .int .i64 p.ch, .int .i64 p.wd, noS] 24))) := Cw.new wr p
      have hplen := hrow.len
      have HTK : Hid (l.take (i + 1) = l.take i ++ [p]) := by
        show _ = _
        have e : p = l[i] := by
          have := List.getElem?_eq_getElem hlt
          rw [hp] at this
          exact Option.some.inj this
        rw [List.take_succ_eq_append_getElem hlt, e]
      have HTL : Hid ((l.take i).length = i) := by
        show _ = _
        rw [List.length_take]
        omega
      clear hw hcell hrow hfair hp
      go_wp2_with fail
      generalize hwc : World.alloc _ _ = wc
      have HC : Hid (Cw wr p noS [] [] wc) := by
        rw [← hwc]
        exact HC0.out
      clear hwc HC0 x0 x1 x2 x3
      obtain ⟨i3, h30, h31, h32, h33⟩ := info_parts info3'
      have H3 : Hid (Try.prog.info? 3 = some i3 ∧ i3.zero = some (.int .i64 0) ∧ i3.size = 1 ∧ i3.bytes = 8) := ⟨h30, h31, h32, h33⟩
      obtain ⟨iI, hI0, hI1, hI2, hI3⟩ := info_parts infoI
      have HI : Hid (Try.prog.info? 45 = some iI ∧ iI.zero = some noS ∧ iI.size = 1 ∧ iI.bytes = 24) := ⟨hI0, hI1, hI2, hI3⟩
      obtain ⟨iP, hP0, hP1, hP2, hP3⟩ := info_parts4 infoP3
      have HIP : Hid (Try.prog.info? 24 = some iP ∧ iP.size = 4) := ⟨hP0, hP2⟩
      clear h30 h31 h32 h33 hI0 hI1 hI2 hI3 hP0 hP1 hP2 hP3
      generalize hww : wr = w1 at *
      clear hww
      go_loopw [10] (fun t wr' => ∃ k : Nat, k ≤ p.pl.length ∧ t = .int .i64 (k : Int) ∧ ∃ v vs, Cw w1 p v vs (p.pl.take k) wr') (fun t _ => p.pl.length - (intOf t).toNat)
      case atStart => exact ⟨0, Nat.zero_le _, rfl, noS, [], HC.out⟩
      case round =>
        clear HC
        obtain ⟨k, hk, rfl, v, vs, hcw⟩ := hrel
        have HC : Hid (Cw w1 p v vs (p.pl.take k) wr) := hcw
        clear hcw
        have HBW : Hid (Below w.heap.size w wr) := HG.out.below.trans (HC.out.below.mono HG.out.below.size)
        have y3 := HCEL.out wr HBW.out
        by_cases hlk : k < p.pl.length
        · obtain ⟨ba, oa, xa, xc, ea, hlc, hnc, hcc, hin⟩ := HROW.out.at2 k hlk
          subst ea
          obtain ⟨lq, hlq⟩ : ∃ lq, p.pl.getD k [] = lq := ⟨_, rfl⟩
          rw [hlq] at hlc hcc hin
          obtain ⟨lp, hlp⟩ : ∃ lp, lq.length = lp := ⟨_, rfl⟩
          rw [hlp] at hlc hcc
          have hl17 : lp ≤ 17592186044415 := by rw [← hlp]; exact hin.len
          have HLP : Hid (lq.length = lp) := hlp
          have HX0 : Hid (xa = none → lp = 0 ∧ xc = 0) := fun q => by
            have := hnc q
            exact ⟨by omega, this⟩
          have HXL : Hid ((p.pl.take k).length = k) := by
            show _ = _
            rw [List.length_take]
            omega
          have HTS : Hid (p.pl.take (k + 1) = p.pl.take k ++ [lq]) := by
            show _ = _
            rw [List.take_succ_eq_append_getElem hlk, ← hlq, List.getD_eq_getElem?_getD, List.getElem?_eq_getElem hlk]
            rfl
          have HNW : Hid (∀ wx, Below w.heap.size w wx → ∀ ad, xa = some ad → ∀ j u, (intsC lq)[j]? = some u → wx.cell? (ad.add j) = some u) := fun wx hwx ad ha j u hj => ints_news hin wx hwx ad ha j u hj
          have HSS2 : Hid (∀ wx, Below w.heap.size w wx → wx.cell? ⟨b, off + i * 4 + 3, none⟩ = some (.slice (some ⟨ba, oa, none⟩) p.pl.length c) ∧ wx.cell? ⟨ba, oa + k, none⟩ = some (.slice xa lp xc)) := fun wx hwx => ⟨HCEL.out wx hwx, hcc wx hwx⟩
          have HBB : Hid (∀ wx, Below w1.heap.size w1 wx → Below w.heap.size w wx) := fun wx hwx => HG.out.below.trans (hwx.mono HG.out.below.size)
          have hS0 := HSS2.out wr.drew (HBB.out _ HC.out.drew.below)
          have q0 : wr.drew.cell? ⟨w1.heap.size, 3, none⟩ = some v := HC.out.drew.q3
          clear hlc hnc hcc hin hlq hlp
          generalize p.pl.take k = xs at *
          go_wp2_with fail
          refine wp_region_held_drew (S := fun wx => wx.cell? ⟨b, off + i * 4 + 3, none⟩ = some (.slice (some ⟨ba, oa, none⟩) p.pl.length c) ∧ wx.cell? ⟨ba, oa + k, none⟩ = some (.slice xa lp xc)) (by kernel_rfl) hS0 (fun hS => ?_)
          refine wpAnyH_take (i := 0) (v := .pointer (some ⟨w1.heap.size, 3, none⟩)) rfl (by kernel_rfl) (by kernel_rfl) (by kernel_rfl) (fun _ _ _ h => h) (Or.inl ⟨by rfl, fun w hSw => by obtain ⟨s1, s2⟩ := hSw; go_simp⟩) hS ?_
          simp only [Act.put, List.getElem_toArray, List.getElem_cons_succ, List.getElem_cons_zero, List.setIfInBounds_toArray, List.set_cons_zero, List.set_cons_succ]
          refine wpAnyH_take (i := 2) (v := .slice (some ⟨b, off, none⟩) l.length lc) rfl (by kernel_rfl) (by kernel_rfl) (by kernel_rfl) (fun _ _ _ h => h) (Or.inl ⟨by rfl, fun w hSw => by obtain ⟨s1, s2⟩ := hSw; go_simp⟩) hS ?_
          simp only [Act.put, List.getElem_toArray, List.getElem_cons_succ, List.getElem_cons_zero, List.setIfInBounds_toArray, List.set_cons_zero, List.set_cons_succ]
          refine wpAnyH_take (i := 3) (v := .int .i64 (i : Int)) rfl (by kernel_rfl) (by kernel_rfl) (by kernel_rfl) (fun _ _ _ h => h) (Or.inl ⟨by rfl, fun w hSw => by obtain ⟨s1, s2⟩ := hSw; go_simp⟩) hS ?_
          simp only [Act.put, List.getElem_toArray, List.getElem_cons_succ, List.getElem_cons_zero, List.setIfInBounds_toArray, List.set_cons_zero, List.set_cons_succ]
          refine wpAnyH_take (i := 4) (v := .pointer (some ⟨b, off + i * 4, none⟩)) rfl (by kernel_rfl) (by kernel_rfl) (by kernel_rfl) (fun _ _ _ h => h) (Or.inl ⟨by rfl, fun w hSw => by obtain ⟨s1, s2⟩ := hSw; go_simp⟩) hS ?_
          simp only [Act.put, List.getElem_toArray, List.getElem_cons_succ, List.getElem_cons_zero, List.setIfInBounds_toArray, List.set_cons_zero, List.set_cons_succ]
          refine wpAnyH_take (i := 5) (v := .pointer (some ⟨b, off + i * 4 + 3, none⟩)) rfl (by kernel_rfl) (by kernel_rfl) (by kernel_rfl) (fun _ _ _ h => h) (Or.inl ⟨by rfl, fun w hSw => by obtain ⟨s1, s2⟩ := hSw; go_simp⟩) hS ?_
          simp only [Act.put, List.getElem_toArray, List.getElem_cons_succ, List.getElem_cons_zero, List.setIfInBounds_toArray, List.set_cons_zero, List.set_cons_succ]
          refine wpAnyH_take (i := 6) (v := .slice (some ⟨ba, oa, none⟩) p.pl.length c) rfl (by kernel_rfl) (by kernel_rfl) (by kernel_rfl) (fun _ _ _ h => h) (Or.inl ⟨by rfl, fun w hSw => by obtain ⟨s1, s2⟩ := hSw; go_simp⟩) hS ?_
          simp only [Act.put, List.getElem_toArray, List.getElem_cons_succ, List.getElem_cons_zero, List.setIfInBounds_toArray, List.set_cons_zero, List.set_cons_succ]
          refine wpAnyH_take (i := 7) (v := .int .i64 (k : Int)) rfl (by kernel_rfl) (by kernel_rfl) (by kernel_rfl) (fun _ _ _ h => h) (Or.inl ⟨by rfl, fun w hSw => by obtain ⟨s1, s2⟩ := hSw; go_simp⟩) hS ?_
          simp only [Act.put, List.getElem_toArray, List.getElem_cons_succ, List.getElem_cons_zero, List.setIfInBounds_toArray, List.set_cons_zero, List.set_cons_succ]
          refine wpAnyH_take (i := 8) (v := .pointer (some ⟨ba, oa + k, none⟩)) rfl (by kernel_rfl) (by kernel_rfl) (by kernel_rfl) (fun _ _ _ h => h) (Or.inl ⟨by rfl, fun w hSw => by obtain ⟨s1, s2⟩ := hSw; go_simp⟩) hS ?_
          simp only [Act.put, List.getElem_toArray, List.getElem_cons_succ, List.getElem_cons_zero, List.setIfInBounds_toArray, List.set_cons_zero, List.set_cons_succ]
          refine wpAnyH_take (i := 9) (v := .slice xa lp xc) rfl (by kernel_rfl) (by kernel_rfl) (by kernel_rfl) (fun _ _ _ h => h) (Or.inl ⟨by rfl, fun w hSw => by obtain ⟨s1, s2⟩ := hSw; go_simp⟩) hS ?_
          simp only [Act.put, List.getElem_toArray, List.getElem_cons_succ, List.getElem_cons_zero, List.setIfInBounds_toArray, List.set_cons_zero, List.set_cons_succ]
          refine wpAnyH_ready (rs := [1, 10]) (by kernel_rfl) (by simp) ?_
          refine AllReadyH.cons rfl (fun K hK => ?_) ?_
          · go_simp
            refine hK.out _ _ hS (fun hSa => ?_)
            clear hK K
            refine wpAnyH_ready (rs := [10]) (by kernel_rfl) (by simp) ?_
            refine AllReadyH.cons rfl (fun K hK => ?_) AllReadyH.nil
            refine step_append_src wr.drew rfl (.const noS) (.tmp 55) 45 rfl (w1.heap.size + 1) 3 i3 (.int .i64 0) 8 Try.underlying45 H3.out.1 H3.out.2.1 H3.out.2.2.1 H3.out.2.2.2 rfl noS 0 [] rfl (World.ownsRow_nil _ _ _ _) xa lp xc (intsC lq) rfl HX0.out (by rw [intsC_length]; exact HLP.out) (HNW.out _ (HBB.out _ HC.out.drew.below)) (intsC_one _) (by simp only [maxLen]; omega) (by omega) HC.out.drew.size ?_
            intro u w5 ho5 hg5 hb5
            obtain ⟨ua, un, uc, rfl⟩ := owns_shape ho5.out
            have C5 : Hid (Cw w1 p v vs xs w5) := HC.out.drew.next (below_of_grown hg5.out)
            have q5 := C5.out.q3
            refine hK.out _ _ (HSS2.out _ (HBB.out _ C5.out.below)) (fun hS5 => ?_)
            clear hK K
            refine wpAnyH_ready (rs := [11]) (by kernel_rfl) (by simp) ?_
            refine AllReadyH.cons rfl (fun K hK => ?_) AllReadyH.nil
            go_simp
            have C6 : Hid (Cw w1 p v vs xs (w5.alloc (.cells #[.slice ua un uc] 45))) := C5.out.next ((Below.refl _ _).alloc (Nat.le_refl _) _)
            have q6 := C6.out.q3
            refine hK.out _ _ (HSS2.out _ (HBB.out _ C6.out.below)) (fun hS6 => ?_)
            clear hK K
            refine wpAnyH_ready (rs := [12]) (by kernel_rfl) (by simp) ?_
            refine AllReadyH.cons rfl (fun K hK => ?_) AllReadyH.nil
            refine step_append_src _ rfl (.tmp 47) (.tmp 57) 22 rfl (w1.heap.size + 1) 45 iI noS 24 Try.underlying22 HI.out.1 HI.out.2.1 HI.out.2.2.1 HI.out.2.2.2 rfl v xs.length vs rfl C6.out.mat.outer (some ⟨w5.heap.size, 0, none⟩) 1 1 [.slice ua un uc] rfl (fun q => (by cases q)) rfl (fun ad q j x hj => one_cell q hj) (owns_one ho5.out) (by have := HXL.out; simp only [maxLen]; omega) (by have := HXL.out; omega) C6.out.size ?_
            intro v7 w7 ho7 hg7 hb7
            obtain ⟨va, vn, vc, rfl⟩ := owns_shape ho7.out
            obtain ⟨g3, g5⟩ := C6.out.grown hg7.out
            have q7 : w7.cell? ⟨w1.heap.size, 3, none⟩ = some v := by rw [cell_of_row _ _ _ _ _ _ g3]; rfl
            have z7 : w7.frozen? ⟨w1.heap.size, 3, none⟩ = false := by simp [World.frozen?, g3]
            have C8 : Hid (Cw w1 p (.slice va vn vc) (vs ++ [.slice ua un uc]) (xs ++ [lq]) (w7.setCell ⟨w1.heap.size, 3, none⟩ (.slice va vn vc))) := C6.out.push (owns_len (owns_below ho5.out ((Below.refl _ _).alloc (Nat.le_refl _) _)) HLP.out) (fun k hk j hj => new_apart hb5.out hk ((HC.out.drew.mat.inner j hj))) (fun k hk => new_apart hb5.out hk HC.out.drew.mat.outer) ho7.out hg7.out hb7.out
            refine hK.out _ _ (HSS2.out _ (HBB.out _ g5)) (fun hS7 => ?_)
            clear hK K g3 g5
            refine wpAnyH_take (i := 13) (v := .pointer (some ⟨w1.heap.size, 3, none⟩)) rfl (by kernel_rfl) (by kernel_rfl) (by kernel_rfl) (fun _ _ _ h => h) (Or.inl ⟨by rfl, fun w hSw => by obtain ⟨s1, s2⟩ := hSw; go_simp⟩) hS7 ?_
            simp only [Act.put, List.getElem_toArray, List.getElem_cons_succ, List.getElem_cons_zero, List.setIfInBounds_toArray, List.set_cons_zero, List.set_cons_succ]
            refine wpAnyH_ready (rs := [14]) (by kernel_rfl) (by simp) ?_
            refine AllReadyH.cons rfl (fun K hK => ?_) AllReadyH.nil
            go_simp
            refine hK.out _ _ (HSS2.out _ (HBB.out _ C8.out.below)) (fun hS8 => ?_)
            refine wpAnyH_done (by kernel_rfl) ?_ _
            clear hK K
            go_wp2_with fail
            go_roundw
            case rel => exact ⟨k + 1, by omega, by go_num, _, vs ++ [.slice ua un uc], by rw [HTS.out]; exact C8.out⟩
            case measure => simp [intOf]; omega
          · refine AllReadyH.cons rfl (fun K hK => ?_) AllReadyH.nil
            refine step_append_src wr.drew rfl (.const noS) (.tmp 55) 45 rfl (w1.heap.size + 1) 3 i3 (.int .i64 0) 8 Try.underlying45 H3.out.1 H3.out.2.1 H3.out.2.2.1 H3.out.2.2.2 rfl noS 0 [] rfl (World.ownsRow_nil _ _ _ _) xa lp xc (intsC lq) rfl HX0.out (by rw [intsC_length]; exact HLP.out) (HNW.out _ (HBB.out _ HC.out.drew.below)) (intsC_one _) (by simp only [maxLen]; omega) (by omega) HC.out.drew.size ?_
            intro u w5 ho5 hg5 hb5
            obtain ⟨ua, un, uc, rfl⟩ := owns_shape ho5.out
            have C5 : Hid (Cw w1 p v vs xs w5) := HC.out.drew.next (below_of_grown hg5.out)
            have q5 := C5.out.q3
            refine hK.out _ _ (HSS2.out _ (HBB.out _ C5.out.below)) (fun hS5 => ?_)
            clear hK K
            refine wpAnyH_ready (rs := [1, 11]) (by kernel_rfl) (by simp) ?_
            refine AllReadyH.cons rfl (fun K hK => ?_) ?_
            · go_simp
              refine hK.out _ _ hS5 (fun hSa => ?_)
              clear hK K
              refine wpAnyH_ready (rs := [11]) (by kernel_rfl) (by simp) ?_
              refine AllReadyH.cons rfl (fun K hK => ?_) AllReadyH.nil
              go_simp
              have C6 : Hid (Cw w1 p v vs xs (w5.alloc (.cells #[.slice ua un uc] 45))) := C5.out.next ((Below.refl _ _).alloc (Nat.le_refl _) _)
              have q6 := C6.out.q3
              refine hK.out _ _ (HSS2.out _ (HBB.out _ C6.out.below)) (fun hS6 => ?_)
              clear hK K
              refine wpAnyH_ready (rs := [12]) (by kernel_rfl) (by simp) ?_
              refine AllReadyH.cons rfl (fun K hK => ?_) AllReadyH.nil
              refine step_append_src _ rfl (.tmp 47) (.tmp 57) 22 rfl (w1.heap.size + 1) 45 iI noS 24 Try.underlying22 HI.out.1 HI.out.2.1 HI.out.2.2.1 HI.out.2.2.2 rfl v xs.length vs rfl C6.out.mat.outer (some ⟨w5.heap.size, 0, none⟩) 1 1 [.slice ua un uc] rfl (fun q => (by cases q)) rfl (fun ad q j x hj => one_cell q hj) (owns_one ho5.out) (by have := HXL.out; simp only [maxLen]; omega) (by have := HXL.out; omega) C6.out.size ?_
              intro v7 w7 ho7 hg7 hb7
              obtain ⟨va, vn, vc, rfl⟩ := owns_shape ho7.out
              obtain ⟨g3, g5⟩ := C6.out.grown hg7.out
              have q7 : w7.cell? ⟨w1.heap.size, 3, none⟩ = some v := by rw [cell_of_row _ _ _ _ _ _ g3]; rfl
              have z7 : w7.frozen? ⟨w1.heap.size, 3, none⟩ = false := by simp [World.frozen?, g3]
              have C8 : Hid (Cw w1 p (.slice va vn vc) (vs ++ [.slice ua un uc]) (xs ++ [lq]) (w7.setCell ⟨w1.heap.size, 3, none⟩ (.slice va vn vc))) := C6.out.push (owns_len (owns_below ho5.out ((Below.refl _ _).alloc (Nat.le_refl _) _)) HLP.out) (fun k hk j hj => new_apart hb5.out hk ((HC.out.drew.mat.inner j hj))) (fun k hk => new_apart hb5.out hk HC.out.drew.mat.outer) ho7.out hg7.out hb7.out
              refine hK.out _ _ (HSS2.out _ (HBB.out _ g5)) (fun hS7 => ?_)
              clear hK K g3 g5
              refine wpAnyH_take (i := 13) (v := .pointer (some ⟨w1.heap.size, 3, none⟩)) rfl (by kernel_rfl) (by kernel_rfl) (by kernel_rfl) (fun _ _ _ h => h) (Or.inl ⟨by rfl, fun w hSw => by obtain ⟨s1, s2⟩ := hSw; go_simp⟩) hS7 ?_
              simp only [Act.put, List.getElem_toArray, List.getElem_cons_succ, List.getElem_cons_zero, List.setIfInBounds_toArray, List.set_cons_zero, List.set_cons_succ]
              refine wpAnyH_ready (rs := [14]) (by kernel_rfl) (by simp) ?_
              refine AllReadyH.cons rfl (fun K hK => ?_) AllReadyH.nil
              go_simp
              refine hK.out _ _ (HSS2.out _ (HBB.out _ C8.out.below)) (fun hS8 => ?_)
              refine wpAnyH_done (by kernel_rfl) ?_ _
              clear hK K
              go_wp2_with fail
              go_roundw
              case rel => exact ⟨k + 1, by omega, by go_num, _, vs ++ [.slice ua un uc], by rw [HTS.out]; exact C8.out⟩
              case measure => simp [intOf]; omega
            · refine AllReadyH.cons rfl (fun K hK => ?_) AllReadyH.nil
              go_simp
              have C6 : Hid (Cw w1 p v vs xs (w5.alloc (.cells #[.slice ua un uc] 45))) := C5.out.next ((Below.refl _ _).alloc (Nat.le_refl _) _)
              have q6 := C6.out.q3
              refine hK.out _ _ (HSS2.out _ (HBB.out _ C6.out.below)) (fun hS6 => ?_)
              clear hK K
              refine wpAnyH_ready (rs := [1]) (by kernel_rfl) (by simp) ?_
              refine AllReadyH.cons rfl (fun K hK => ?_) AllReadyH.nil
              go_simp
              refine hK.out _ _ hS6 (fun hSa => ?_)
              clear hK K
              refine wpAnyH_ready (rs := [12]) (by kernel_rfl) (by simp) ?_
              refine AllReadyH.cons rfl (fun K hK => ?_) AllReadyH.nil
              refine step_append_src _ rfl (.tmp 47) (.tmp 57) 22 rfl (w1.heap.size + 1) 45 iI noS 24 Try.underlying22 HI.out.1 HI.out.2.1 HI.out.2.2.1 HI.out.2.2.2 rfl v xs.length vs rfl C6.out.mat.outer (some ⟨w5.heap.size, 0, none⟩) 1 1 [.slice ua un uc] rfl (fun q => (by cases q)) rfl (fun ad q j x hj => one_cell q hj) (owns_one ho5.out) (by have := HXL.out; simp only [maxLen]; omega) (by have := HXL.out; omega) C6.out.size ?_
              intro v7 w7 ho7 hg7 hb7
              obtain ⟨va, vn, vc, rfl⟩ := owns_shape ho7.out
              obtain ⟨g3, g5⟩ := C6.out.grown hg7.out
              have q7 : w7.cell? ⟨w1.heap.size, 3, none⟩ = some v := by rw [cell_of_row _ _ _ _ _ _ g3]; rfl
              have z7 : w7.frozen? ⟨w1.heap.size, 3, none⟩ = false := by simp [World.frozen?, g3]
              have C8 : Hid (Cw w1 p (.slice va vn vc) (vs ++ [.slice ua un uc]) (xs ++ [lq]) (w7.setCell ⟨w1.heap.size, 3, none⟩ (.slice va vn vc))) := C6.out.push (owns_len (owns_below ho5.out ((Below.refl _ _).alloc (Nat.le_refl _) _)) HLP.out) (fun k hk j hj => new_apart hb5.out hk ((HC.out.drew.mat.inner j hj))) (fun k hk => new_apart hb5.out hk HC.out.drew.mat.outer) ho7.out hg7.out hb7.out
              refine hK.out _ _ (HSS2.out _ (HBB.out _ g5)) (fun hS7 => ?_)
              clear hK K g3 g5
              refine wpAnyH_take (i := 13) (v := .pointer (some ⟨w1.heap.size, 3, none⟩)) rfl (by kernel_rfl) (by kernel_rfl) (by kernel_rfl) (fun _ _ _ h => h) (Or.inl ⟨by rfl, fun w hSw => by obtain ⟨s1, s2⟩ := hSw; go_simp⟩) hS7 ?_
              simp only [Act.put, List.getElem_toArray, List.getElem_cons_succ, List.getElem_cons_zero, List.setIfInBounds_toArray, List.set_cons_zero, List.set_cons_succ]
              refine wpAnyH_ready (rs := [14]) (by kernel_rfl) (by simp) ?_
              refine AllReadyH.cons rfl (fun K hK => ?_) AllReadyH.nil
              go_simp
              refine hK.out _ _ (HSS2.out _ (HBB.out _ C8.out.below)) (fun hS8 => ?_)
              refine wpAnyH_done (by kernel_rfl) ?_ _
              clear hK K
              go_wp2_with fail
              go_roundw
              case rel => exact ⟨k + 1, by omega, by go_num, _, vs ++ [.slice ua un uc], by rw [HTS.out]; exact C8.out⟩
              case measure => simp [intOf]; omega
        · have hkn : k = p.pl.length := by omega
          subst hkn
          have HRV : Hid (∃ ao cap, v = .slice ao p.pl.length cap ∧ RowsAt wr ao p.pl ∧ Fresh (w1.heap.size + 1) wr ao p.pl) := by
            have hm := HC.out.mat
            rw [List.take_length] at hm
            exact hm.rows hplen (fun j hj => by
              obtain ⟨_, _, _, _, _, h1, _, h2⟩ := HROW.out.at j hj
              exact ⟨h1, h2.num⟩)
          obtain ⟨ao, cap, hv, hrv, hfv⟩ := HRV.out
          subst hv
          have q0 : wr.cell? ⟨w1.heap.size, 0, none⟩ = some (.int .i64 p.rate) := by rw [cell_of_row _ _ _ _ _ _ HC.out.q]; rfl
          have q1 : wr.cell? ⟨w1.heap.size, 1, none⟩ = some (.int .i64 p.ch) := by rw [cell_of_row _ _ _ _ _ _ HC.out.q]; rfl
          have q2 : wr.cell? ⟨w1.heap.size, 2, none⟩ = some (.int .i64 p.wd) := by rw [cell_of_row _ _ _ _ _ _ HC.out.q]; rfl
          have q3 : wr.cell? ⟨w1.heap.size, 3, none⟩ = some (.slice ao p.pl.length cap) := by rw [cell_of_row _ _ _ _ _ _ HC.out.q]; rfl
          have HG2 : Hid (Gv w w.heap.size l.length (l.take i) qs (wr.alloc (.cells #[.int .i64 p.rate, .int .i64 p.ch, .int .i64 p.wd, .slice ao p.pl.length cap] 24))) := HG.out.next (HC.out.below.alloc HC.out.below.size _)
          have HB2 : Below wr.heap.size wr (wr.alloc (.cells #[.int .i64 p.rate, .int .i64 p.ch, .int .i64 p.wd, .slice ao p.pl.length cap] 24)) := (Below.refl _ _).alloc (Nat.le_refl _) _
          have HRH : Hid (RowsAt (wr.alloc (.cells #[.int .i64 p.rate, .int .i64 p.ch, .int .i64 p.wd, .slice ao p.pl.length cap] 24)) ao p.pl ∧ High (w.heap.size + 1) (wr.alloc (.cells #[.int .i64 p.rate, .int .i64 p.ch, .int .i64 p.wd, .slice ao p.pl.length cap] 24)) ao p.pl) :=
            hrv.keepHigh (hfv.high.mono (by have := HG.out.lo; omega)) (fun k _ hk => HB2.block k hk)
          have HOW : Hid ((wr.alloc (.cells #[.int .i64 p.rate, .int .i64 p.ch, .int .i64 p.wd, .slice ao p.pl.length cap] 24)).ownsRow w.heap.size 24 4 (.slice (some ⟨w.heap.size, 0, none⟩) i l.length) i (gcells (l.take i) qs)) := by
            have := HG2.out.own
            rwa [HTL.out] at this
          have HPUSH : Hid (∀ w', w'.ownsRow w.heap.size 24 4 (.slice (some ⟨w.heap.size, 0, none⟩) (i + 1) l.length) (i + 1) (gcells (l.take i) qs ++ [.int .i64 p.rate, .int .i64 p.ch, .int .i64 p.wd, .slice ao p.pl.length cap]) → (wr.alloc (.cells #[.int .i64 p.rate, .int .i64 p.ch, .int .i64 p.wd, .slice ao p.pl.length cap] 24)).grownBy w' (some w.heap.size) → Gv w w.heap.size l.length (l.take (i + 1)) (qs ++ [(ao, cap)]) w') := fun w' h1 h2 => by
            rw [HTK.out]
            exact HG2.out.push HRH.out.1 HRH.out.2 (by rw [HTL.out]; exact h1) h2
          clear HRV hrv hfv HB2 HG HC HG2 HRH
          go_wp2_with (at_builtin; refine wpList_append_fits _ rfl (.tmp 60) (.tmp 62) 44 rfl w.heap.size 24 iP 4 Try.underlying44 HIP.out.1 HIP.out.2 w.heap.size i l.length _ rfl HOW.out ⟨wr.heap.size, 0, none⟩ 1 1 [.int .i64 p.rate, .int .i64 p.ch, .int .i64 p.wd, .slice ao p.pl.length cap] rfl rfl four_cells (by simp [Value.oneCell']) (by omega) ?_; intro w6 ho6 hg6)
          have HGN : Hid (Gv w w.heap.size l.length (l.take (i + 1)) (qs ++ [(ao, cap)]) w6) := HPUSH.out w6 ho6.out hg6.out
          go_roundw
          case rel => exact ⟨i + 1, by omega, by go_num, rfl, _, HGN.out⟩
          case measure => simp [intOf]; omega
    · have hie : i = l.length := by omega
      subst hie
      have HGP : Hid (PcmsAt wr (some ⟨w.heap.size, 0, none⟩) l) := by
        have := HG.out.pcms (by rw [List.take_length]; exact hlen) (fun j p hj => by rw [List.take_length] at hj; exact HRL.out.fair j p hj)
        rwa [List.take_length] at this
      have HLB : Hid (PcmsAt wr lo l) := HRL.out.below HG.out.below
      have HBW : Hid (Below w.heap.size w wr) := HG.out.below
      clear HG hi hlt
      generalize hww : wr = wB at *
      clear hww
      have kj := join_spec l (some ⟨w.heap.size, 0, none⟩) l.length wB HGP.out
      have KR : Hid (∀ wx, Below wB.heap.size wB wx → Calls Try.prog 21 #[.slice lo l.length lc] wx fun e w' => Gives wx (joinP l) (joinE l) e w') := fun wx hx => rjoin_spec l lo lc wx (HLB.out.below hx)
      generalize joinP l = J at *
      generalize joinE l = E at *
      go_wp2_with fail
      refine kj.mono ?_
      rintro e w2 ⟨a2, c2, rfl, r2, _, b2⟩
      have HB2 : Hid (Bs wB ([] ++ [(w2.heap.size, J, a2, c2)]) (w2.alloc (.cells (pcmC J a2 c2) 24))) := Bs.new (qs := []) ⟨b2, fun x hx => absurd hx (by simp)⟩ r2
      have kr := KR.out _ HB2.out.below
      clear kj r2 b2
      go_wp2_with fail
      refine kr.mono ?_
      rintro e w3 ⟨a3, c3, rfl, r3, _, b3⟩
      have HB3 : Hid (Bs wB (([] ++ [(w2.heap.size, J, a2, c2)]) ++ [(w3.heap.size, J, a3, c3)]) (w3.alloc (.cells (pcmC J a3 c3) 24))) := (HB2.out.next b3).new r3
      obtain ⟨x0, x1, x2, x3⟩ := HB3.out.cells (List.mem_append_left _ (List.mem_append_right _ (List.mem_singleton_self _)))
      obtain ⟨y0, y1, y2, y3⟩ := HB3.out.cells (List.mem_append_right _ (List.mem_singleton_self _))
      have ks : Calls Try.prog 17 #[pcmV J a2 c2, pcmV J a3 c3] (w3.alloc (.cells (pcmC J a3 c3) 24)) fun e w' => e = .returned (.bool true) ∧ Hid (Below wB.heap.size wB w') := (rsame_spec J J a2 a3 c2 c3 _ (HB3.out.bs _ (List.mem_append_left _ (List.mem_append_right _ (List.mem_singleton_self _)))).2 (HB3.out.bs _ (List.mem_append_right _ (List.mem_singleton_self _))).2).mono fun e w' h => ⟨by rw [h.1, sameB_refl], (HB3.out.next h.2).below⟩
      clear kr r3 b3 HB2 HB3 KR
      go_wp2_with fail
      refine ks.mono ?_
      rintro e w4 ⟨rfl, b4⟩
      clear ks x0 x1 x2 x3 y0 y1 y2 y3
      go_wp2_with fail
      go_loopw [15] (fun t wr => ∃ i : Nat, i ≤ l.length ∧ t = .int .i64 (i : Int) ∧ Below wB.heap.size wB wr) (fun t _ => l.length - (intOf t).toNat)
      case atStart => exact ⟨0, Nat.zero_le _, rfl, b4.out⟩
      case round =>
        clear b4
        obtain ⟨i, hi, rfl, hbw⟩ := hrel
        have HW : Hid (Below wB.heap.size wB wr) := hbw
        clear hbw
        by_cases hlt : i < l.length
        · obtain ⟨p, hp⟩ : ∃ p, l[i]? = some p := ⟨_, List.getElem?_eq_getElem hlt⟩
          obtain ⟨p0, hp0⟩ : ∃ p0, l[0]? = some p0 := ⟨_, List.getElem?_eq_getElem (by omega)⟩
          have hpos : 0 < l.length := by omega
          have hposi : (0 : Int) < (l.length : Int) := by omega
          obtain ⟨gb, go, ga, gc, eg, hgc, hgr, _⟩ := HGP.out.at i p hp
          cases eg
          obtain ⟨b, off, la, lcc, rfl, hlc, hlr, _⟩ := HLB.out.at i p hp
          obtain ⟨b', off', za, zc, ez, hzc, hzr, _⟩ := HLB.out.at 0 p0 hp0
          cases ez
          rw [Nat.zero_mul] at hzc
          have HGC : Hid (∀ wx, Below wB.heap.size wB wx → wx.cell? ⟨w.heap.size, i * 4, none⟩ = some (.int .i64 p.rate) ∧ wx.cell? ⟨w.heap.size, i * 4 + 1, none⟩ = some (.int .i64 p.ch) ∧ wx.cell? ⟨w.heap.size, i * 4 + 2, none⟩ = some (.int .i64 p.wd) ∧ wx.cell? ⟨w.heap.size, i * 4 + 3, none⟩ = some (.slice ga p.pl.length gc)) := fun wx hx => by
            have := hgc wx hx
            rw [Nat.zero_add] at this
            exact this
          have HLC : Hid (∀ wx, Below wB.heap.size wB wx → wx.cell? ⟨b, off + i * 4, none⟩ = some (.int .i64 p.rate) ∧ wx.cell? ⟨b, off + i * 4 + 1, none⟩ = some (.int .i64 p.ch) ∧ wx.cell? ⟨b, off + i * 4 + 2, none⟩ = some (.int .i64 p.wd) ∧ wx.cell? ⟨b, off + i * 4 + 3, none⟩ = some (.slice la p.pl.length lcc)) := hlc
          have HZC : Hid (∀ wx, Below wB.heap.size wB wx → wx.cell? ⟨b, off, none⟩ = some (.int .i64 p0.rate) ∧ wx.cell? ⟨b, off + 1, none⟩ = some (.int .i64 p0.ch) ∧ wx.cell? ⟨b, off + 2, none⟩ = some (.int .i64 p0.wd) ∧ wx.cell? ⟨b, off + 3, none⟩ = some (.slice za p0.pl.length zc)) := hzc
          have HGR : Hid (RowsAt wB ga p.pl) := hgr
          have HLR : Hid (RowsAt wB la p.pl) := hlr
          have HZR : Hid (RowsAt wB za p0.pl) := hzr
          have ks := slice_spec p ga gc f t wr (HGR.out.below HW.out)
          have KT : Hid (∀ wx, Below wB.heap.size wB wx → Calls Try.prog 23 #[pcmV p la lcc, .int .i64 f, .int .i64 t] wx fun e w' => Gives wx (sliceP p f t) (sliceN p f t) e w') := fun wx hx => rslice_spec p la lcc f t wx (HLR.out.below hx)
          generalize sliceP p f t = SP at *
          generalize sliceN p f t = SN at *
          obtain ⟨x0, x1, x2, x3⟩ := HGC.out wr HW.out
          clear hgc hlc hzc hgr hlr hzr hp hp0
          have hB0 : Hid (wB.heap.size ≤ wr.heap.size) := HW.out.size
          go_wp2_with fail
          refine ks.mono ?_
          rintro e w3 ⟨a3, c3, rfl, r3, f3, b3⟩
          have HR3 : Hid (RowsAt w3 a3 SP.pl) := r3
          have HF3 : Hid (Fresh wr.heap.size w3 a3 SP.pl) := f3
          have HW3 : Hid (Below wr.heap.size wr w3) := b3
          have HB3 : Hid (Bs wr ([] ++ [(w3.heap.size, SP, a3, c3)]) (w3.alloc (.cells (pcmC SP a3 c3) 24))) := Bs.new (qs := []) ⟨b3, fun x hx => absurd hx (by simp)⟩ r3
          have HBB : Hid (∀ wx, Below wr.heap.size wr wx → Below wB.heap.size wB wx) := fun wx hx => HW.out.trans (hx.mono hB0.out)
          obtain ⟨z0, z1, z2, z3⟩ := HLC.out _ (HBB.out _ HB3.out.below)
          have kt := KT.out _ (HBB.out _ HB3.out.below)
          clear ks r3 f3 b3 x0 x1 x2 x3
          go_wp2_with fail
          refine kt.mono ?_
          rintro e w4 ⟨a4, c4, rfl, r4, _, b4⟩
          have HB4 : Hid (Bs wr (([] ++ [(w3.heap.size, SP, a3, c3)]) ++ [(w4.heap.size, SP, a4, c4)]) (w4.alloc (.cells (pcmC SP a4 c4) 24))) := (HB3.out.next b4).new r4
          have HW4 : Hid (Below w3.heap.size w3 (w4.alloc (.cells (pcmC SP a4 c4) 24))) := (((Below.refl _ _).alloc (Nat.le_refl _) (.cells (pcmC SP a3 c3) 24)).trans (b4.mono (by simp))).alloc (by have := b4.size; simp at this; omega) _
          clear kt r4 b4 HB3 z0 z1 z2 z3
          have HBT : Hid (Bt wr w3 (([] ++ [(w3.heap.size, SP, a3, c3)]) ++ [(w4.heap.size, SP, a4, c4)]) (w4.alloc (.cells (pcmC SP a4 c4) 24)).drew) := (show Bt wr w3 (([] ++ [(w3.heap.size, SP, a3, c3)]) ++ [(w4.heap.size, SP, a4, c4)]) _ from ⟨HB4.out, HW4.out⟩).next ⟨rfl, rfl, rfl, Nat.le_refl _, fun _ _ => rfl⟩
          have KS1 : Hid (∀ wx, Hid (Bt wr w3 (([] ++ [(w3.heap.size, SP, a3, c3)]) ++ [(w4.heap.size, SP, a4, c4)]) wx) → Calls Try.prog 17 #[pcmV SP a3 c3, pcmV SP a4 c4] wx fun e w' => e = .returned (.bool true) ∧ Hid (Bt wr w3 (([] ++ [(w3.heap.size, SP, a3, c3)]) ++ [(w4.heap.size, SP, a4, c4)]) w')) := fun wx hx => (rsame_spec SP SP a3 a4 c3 c4 wx (hx.out.bs.bs _ (List.mem_append_left _ (List.mem_append_right _ (List.mem_singleton_self _)))).2 (hx.out.bs.bs _ (List.mem_append_right _ (List.mem_singleton_self _))).2).mono fun e w' h => ⟨by rw [h.1, sameB_refl], hx.out.next h.2⟩
          have KS2 : Hid (∀ wx, Hid (Bt wr w3 (([] ++ [(w3.heap.size, SP, a3, c3)]) ++ [(w4.heap.size, SP, a4, c4)]) wx) → Calls Try.prog 19 #[pcmV p ga gc, pcmV p0 za zc] wx fun e w' => e = .returned (.bool (sameB p p0)) ∧ Hid (Bt wr w3 (([] ++ [(w3.heap.size, SP, a3, c3)]) ++ [(w4.heap.size, SP, a4, c4)]) w')) := fun wx hx => (same_spec p p0 ga za gc zc wx (HGR.out.below (HBB.out _ hx.out.bs.below)) (HZR.out.below (HBB.out _ hx.out.bs.below))).mono fun e w' h => ⟨h.1, hx.out.next h.2⟩
          have KS3 : Hid (∀ wx, Hid (Bt wr w3 (([] ++ [(w3.heap.size, SP, a3, c3)]) ++ [(w4.heap.size, SP, a4, c4)]) wx) → Calls Try.prog 17 #[pcmV p la lcc, pcmV p0 za zc] wx fun e w' => e = .returned (.bool (sameB p p0)) ∧ Hid (Bt wr w3 (([] ++ [(w3.heap.size, SP, a3, c3)]) ++ [(w4.heap.size, SP, a4, c4)]) w')) := fun wx hx => (rsame_spec p p0 la za lcc zc wx (HLR.out.below (HBB.out _ hx.out.bs.below)) (HZR.out.below (HBB.out _ hx.out.bs.below))).mono fun e w' h => ⟨h.1, hx.out.next h.2⟩
          have HSS : Hid (∀ wx, Hid (Bt wr w3 (([] ++ [(w3.heap.size, SP, a3, c3)]) ++ [(w4.heap.size, SP, a4, c4)]) wx) → (wx.cell? ⟨w3.heap.size, 0, none⟩ = some (.int .i64 SP.rate) ∧ wx.cell? ⟨w3.heap.size, 1, none⟩ = some (.int .i64 SP.ch) ∧ wx.cell? ⟨w3.heap.size, 2, none⟩ = some (.int .i64 SP.wd) ∧ wx.cell? ⟨w3.heap.size, 3, none⟩ = some (.slice a3 SP.pl.length c3)) ∧ (wx.cell? ⟨w4.heap.size, 0, none⟩ = some (.int .i64 SP.rate) ∧ wx.cell? ⟨w4.heap.size, 1, none⟩ = some (.int .i64 SP.ch) ∧ wx.cell? ⟨w4.heap.size, 2, none⟩ = some (.int .i64 SP.wd) ∧ wx.cell? ⟨w4.heap.size, 3, none⟩ = some (.slice a4 SP.pl.length c4)) ∧ (wx.cell? ⟨w.heap.size, i * 4, none⟩ = some (.int .i64 p.rate) ∧ wx.cell? ⟨w.heap.size, i * 4 + 1, none⟩ = some (.int .i64 p.ch) ∧ wx.cell? ⟨w.heap.size, i * 4 + 2, none⟩ = some (.int .i64 p.wd) ∧ wx.cell? ⟨w.heap.size, i * 4 + 3, none⟩ = some (.slice ga p.pl.length gc)) ∧ (wx.cell? ⟨b, off, none⟩ = some (.int .i64 p0.rate) ∧ wx.cell? ⟨b, off + 1, none⟩ = some (.int .i64 p0.ch) ∧ wx.cell? ⟨b, off + 2, none⟩ = some (.int .i64 p0.wd) ∧ wx.cell? ⟨b, off + 3, none⟩ = some (.slice za p0.pl.length zc)) ∧ (wx.cell? ⟨b, off + i * 4, none⟩ = some (.int .i64 p.rate) ∧ wx.cell? ⟨b, off + i * 4 + 1, none⟩ = some (.int .i64 p.ch) ∧ wx.cell? ⟨b, off + i * 4 + 2, none⟩ = some (.int .i64 p.wd) ∧ wx.cell? ⟨b, off + i * 4 + 3, none⟩ = some (.slice la p.pl.length lcc))) := fun wx hx => ⟨hx.out.bs.cells (List.mem_append_left _ (List.mem_append_right _ (List.mem_singleton_self _))), hx.out.bs.cells (List.mem_append_right _ (List.mem_singleton_self _)), HGC.out _ (HBB.out _ hx.out.bs.below), HZC.out _ (HBB.out _ hx.out.bs.below), HLC.out _ (HBB.out _ hx.out.bs.below)⟩
          generalize sameB p p0 = sb at *
          clear HB4 HW4 KT
          go_wp2_with fail
          go_region_held3 (fun wx => (wx.cell? ⟨w3.heap.size, 0, none⟩ = some (.int .i64 SP.rate) ∧ wx.cell? ⟨w3.heap.size, 1, none⟩ = some (.int .i64 SP.ch) ∧ wx.cell? ⟨w3.heap.size, 2, none⟩ = some (.int .i64 SP.wd) ∧ wx.cell? ⟨w3.heap.size, 3, none⟩ = some (.slice a3 SP.pl.length c3)) ∧ (wx.cell? ⟨w4.heap.size, 0, none⟩ = some (.int .i64 SP.rate) ∧ wx.cell? ⟨w4.heap.size, 1, none⟩ = some (.int .i64 SP.ch) ∧ wx.cell? ⟨w4.heap.size, 2, none⟩ = some (.int .i64 SP.wd) ∧ wx.cell? ⟨w4.heap.size, 3, none⟩ = some (.slice a4 SP.pl.length c4)) ∧ (wx.cell? ⟨w.heap.size, i * 4, none⟩ = some (.int .i64 p.rate) ∧ wx.cell? ⟨w.heap.size, i * 4 + 1, none⟩ = some (.int .i64 p.ch) ∧ wx.cell? ⟨w.heap.size, i * 4 + 2, none⟩ = some (.int .i64 p.wd) ∧ wx.cell? ⟨w.heap.size, i * 4 + 3, none⟩ = some (.slice ga p.pl.length gc)) ∧ (wx.cell? ⟨b, off, none⟩ = some (.int .i64 p0.rate) ∧ wx.cell? ⟨b, off + 1, none⟩ = some (.int .i64 p0.ch) ∧ wx.cell? ⟨b, off + 2, none⟩ = some (.int .i64 p0.wd) ∧ wx.cell? ⟨b, off + 3, none⟩ = some (.slice za p0.pl.length zc)) ∧ (wx.cell? ⟨b, off + i * 4, none⟩ = some (.int .i64 p.rate) ∧ wx.cell? ⟨b, off + i * 4 + 1, none⟩ = some (.int .i64 p.ch) ∧ wx.cell? ⟨b, off + i * 4 + 2, none⟩ = some (.int .i64 p.wd) ∧ wx.cell? ⟨b, off + i * 4 + 3, none⟩ = some (.slice la p.pl.length lcc))) (exact HSS.out _ (by assumption))
            (first
              | (go_at_call_of 17 (Value.agg #[.int .i64 SP.rate, .int .i64 SP.ch, .int .i64 SP.wd, .slice a3 SP.pl.length c3]); refine (KS1.out _ (by assumption)).mono ?_; rintro e w5 ⟨rfl, h5⟩)
              | (go_at_call 19; refine (KS2.out _ (by assumption)).mono ?_; rintro e w6 ⟨rfl, h6⟩)
              | (go_at_call_of 17 (Value.agg #[.int .i64 p.rate, .int .i64 p.ch, .int .i64 p.wd, .slice la p.pl.length lcc]); refine (KS3.out _ (by assumption)).mono ?_; rintro e w7 ⟨rfl, h7⟩))
          all_goals
            have HS7 : Hid (S7 wr.heap.size wr w3.heap.size a3 c3 SP.pl w7) := S7.of HW3.out HW3.out.size HR3.out HF3.out h7.out.b3 (h7.out.bs.cells (List.mem_append_left _ (List.mem_append_right _ (List.mem_singleton_self _)))).2.2.2
            have KS4 : Hid (∀ wx, Hid (Below wB.heap.size wB wx) → Calls Try.prog 17 #[pcmV p ga gc, pcmV p la lcc] wx fun e w' => e = .returned (.bool true) ∧ Hid (Below wB.heap.size wB w')) := fun wx hx => (rsame_spec p p ga la gc lcc wx (HGR.out.below hx.out) (HLR.out.below hx.out)).mono fun e w' h => ⟨by rw [h.1, sameB_refl], hx.out.trans (h.2.mono hx.out.size)⟩
            have HSX : Hid (∀ wx, Hid (Below wB.heap.size wB wx) → (wx.cell? ⟨w.heap.size, i * 4, none⟩ = some (.int .i64 p.rate) ∧ wx.cell? ⟨w.heap.size, i * 4 + 1, none⟩ = some (.int .i64 p.ch) ∧ wx.cell? ⟨w.heap.size, i * 4 + 2, none⟩ = some (.int .i64 p.wd) ∧ wx.cell? ⟨w.heap.size, i * 4 + 3, none⟩ = some (.slice ga p.pl.length gc)) ∧ (wx.cell? ⟨b, off + i * 4, none⟩ = some (.int .i64 p.rate) ∧ wx.cell? ⟨b, off + i * 4 + 1, none⟩ = some (.int .i64 p.ch) ∧ wx.cell? ⟨b, off + i * 4 + 2, none⟩ = some (.int .i64 p.wd) ∧ wx.cell? ⟨b, off + i * 4 + 3, none⟩ = some (.slice la p.pl.length lcc))) := fun wx hx => ⟨HGC.out _ hx.out, HLC.out _ hx.out⟩
            have hspl := HR3.out.len
            clear h5 h6 h7 KS1 KS2 KS3 HSS HBT HZC HZR HF3 HW3 HW
            generalize hww : wr = wq at *
            clear hww
            go_wp2_with fail
            go_loopw [20] (fun t wr' => ∃ k : Nat, k ≤ SP.pl.length ∧ t = .int .i64 (k : Int) ∧ S7 wq.heap.size wq w3.heap.size a3 c3 SP.pl wr') (fun t _ => SP.pl.length - (intOf t).toNat)
            case atStart => exact ⟨0, Nat.zero_le _, rfl, HS7.out⟩
            case round =>
              clear HS7
              obtain ⟨k, hk, rfl, hs7⟩ := hrel
              have HS : Hid (S7 wq.heap.size wq w3.heap.size a3 c3 SP.pl wr) := hs7
              have y3 := hs7.box
              clear hs7
              by_cases hlk : k < SP.pl.length
              · have hrl : (SP.pl.getD k []).length ≤ 17592186044415 := by
                  obtain ⟨_, _, _, _, _, h1, _, _⟩ := HR3.out.at k hlk
                  exact h1
                obtain ⟨L, hL⟩ : ∃ L, (SP.pl.getD k []).length = L := ⟨_, rfl⟩
                have HL : Hid ((SP.pl.getD k []).length = L) := hL
                rw [hL] at hrl
                clear hL
                go_wp2_with fail
                clear y3
                go_loopw [21] (fun t wr' => ∃ j : Nat, j ≤ L ∧ t = .int .i64 (j : Int) ∧ S7 wq.heap.size wq w3.heap.size a3 c3 SP.pl wr') (fun t _ => L - (intOf t).toNat)
                case atStart => exact ⟨0, Nat.zero_le _, rfl, HS.out⟩
                case round =>
                  clear HS
                  obtain ⟨j, hj, rfl, hs7⟩ := hrel
                  have HS : Hid (S7 wq.heap.size wq w3.heap.size a3 c3 SP.pl wr) := hs7
                  have y3 := hs7.box
                  obtain ⟨rb, ro, ra, rc, era, hrc, hrn⟩ := hs7.rows k hlk
                  clear hs7
                  subst era
                  rw [HL.out] at hrc hrn
                  by_cases hlj : j < L
                  · obtain ⟨ba, oa, era, hB, hfz, hcl⟩ := hrn (by omega)
                    subst era
                    obtain ⟨n, hn⟩ := hcl j hlj
                    have z0 := hfz (oa + j)
                    have HS2 : Hid (S7 wq.heap.size wq w3.heap.size (some ⟨rb, ro, none⟩) c3 SP.pl (wr.setCell ⟨ba, oa + j, none⟩ (.int .i64 77))) := HS.out.set ba (oa + j) n 77 hB hn
                    clear hrn hfz hcl HS
                    go_wp2_with fail
                    go_roundw
                    case rel => exact ⟨j + 1, by omega, by go_num, HS2.out⟩
                    case measure => simp [intOf]; omega
                  · have hje : j = L := by omega
                    clear hrn
                    go_wp2_with fail
                    go_roundw
                    case rel => exact ⟨k + 1, by omega, by go_num, HS.out⟩
                    case measure => simp [intOf]; omega
              · have HE : Hid (Below wB.heap.size wB wr) := HBB.out _ HS.out.below
                have HED : Hid (Below wB.heap.size wB wr.drew) := HE.out.trans ⟨rfl, rfl, rfl, Nat.le_refl _, fun _ _ => rfl⟩
                clear HS
                go_wp2_with fail
                go_region_held3 (fun wx => (wx.cell? ⟨w.heap.size, i * 4, none⟩ = some (.int .i64 p.rate) ∧ wx.cell? ⟨w.heap.size, i * 4 + 1, none⟩ = some (.int .i64 p.ch) ∧ wx.cell? ⟨w.heap.size, i * 4 + 2, none⟩ = some (.int .i64 p.wd) ∧ wx.cell? ⟨w.heap.size, i * 4 + 3, none⟩ = some (.slice ga p.pl.length gc)) ∧ (wx.cell? ⟨b, off + i * 4, none⟩ = some (.int .i64 p.rate) ∧ wx.cell? ⟨b, off + i * 4 + 1, none⟩ = some (.int .i64 p.ch) ∧ wx.cell? ⟨b, off + i * 4 + 2, none⟩ = some (.int .i64 p.wd) ∧ wx.cell? ⟨b, off + i * 4 + 3, none⟩ = some (.slice la p.pl.length lcc))) (exact HSX.out _ (by assumption))
                  (first
                    | (go_at_call 17; refine (KS4.out _ (by assumption)).mono ?_; rintro e w8 ⟨rfl, h8⟩))
                go_wp2_with fail
                go_roundw
                case rel => exact ⟨i + 1, by omega, by go_num, h8.out⟩
                case measure => simp [intOf]; omega
        · have hie : i = l.length := by omega
          have ka := awake_spec wr
          go_wp2_with fail
          refine ka.mono ?_
          rintro e wz ⟨rfl, bz⟩
          have HBZ : Hid (Below w.heap.size w wz) := (HBW.out.trans (HW.out.mono HBW.out.size)).trans (bz.mono (HBW.out.trans (HW.out.mono HBW.out.size)).size)
          go_wp2_with fail
          go_ret
          exact ⟨rfl, HBZ.out⟩


set_option maxRecDepth 100000 in
theorem lifted (os : Os) (started : os.Started) (H : Type) (enc : TypeId × Value → H) :
    ReturnsInHanded {} Try.checked os 6 .any (Rows.pcmPartsSpec.pre6 enc Try.prog Try.f6 Rows.pcmPartsRow.domain false) (Rows.pcmPartsSpec.post enc Try.prog Try.f6 false true false false) := by
  refine returnsInHanded_of_change_sized (C := Try.checked) own started (by kernel_rfl) Try.func6
    (ChangeSpec.witness6 (enc := enc) (C := Try.checked) false ⟨#[], #[.slice none 0 0, .int .i64 0, .int .i64 0], []⟩ 8 (by kernel_rfl) (by kernel_rfl) (by kernel_rfl) (by kernel_rfl)) ?_
  intro W base args ds gs before hval0 hW hcnd0 hsz0 hholds
  have hval : ∀ (j : Nat) t v, Try.f6.params[j]? = some t → args[j]? = some v → Value.okWide Try.prog W .any base t v := hval0
  have hsz : (DataW.weightsEach Try.prog (Try.f6.params.toList ++ Rows.pcmPartsSpec.plain.varTypes Try.prog) (ds ++ gs)).all (· ≤ reachBytes) = true := hsz0
  have hW' := hW
  obtain ⟨p, q, hA0, hV, rfl, hfz, hnd⟩ := hW
  have hA : DataW.TrodAll enc Try.prog W 0 (fun _ => true) true Try.f6.params.toList args.toList ds p := hA0
  rw [Try.params6] at hA hval hsz
  obtain ⟨v0, vs0, d0, ds0, p0, q0, hargs, rfl, rfl, h0, r0⟩ := trodAll_cons hA
  obtain ⟨v1, vs1, d1, ds1, p1, q1, rfl, rfl, rfl, h1, r1⟩ := trodAll_cons r0
  obtain ⟨v2, vs2, d2, ds2, p2, q2, rfl, rfl, rfl, h2, r2⟩ := trodAll_cons r1
  obtain ⟨rfl, rfl, rfl⟩ := trodAll_nil r2
  obtain rfl : args = #[v0, v1, v2] := by cases args; simp_all
  obtain ⟨rfl, rfl⟩ := trodVars_none hV
  have hall := List.all_eq_true.1 hsz
  have hw0 : ∀ n ∈ d0.weights Try.prog 44, n ≤ reachBytes := fun n hn => by
    have := hall n (List.mem_append.2 (.inl hn))
    exact of_decide_eq_true this
  have k0 := h0
  have lt0 : ∀ x ∈ p0, x.block < W.heap.size := by obtain ⟨m, hm⟩ := k0; exact DataW.trod_lt m _ _ _ hm
  obtain ⟨o0, n0, c0, rfl⟩ := okWide_slice Try.underlying44 (hval 0 44 v0 rfl rfl)
  obtain ⟨x0, hl0, hr0⟩ := open_pcms h0 hw0
  subst hl0
  obtain ⟨x1, rfl, rfl, rfl, i1⟩ := open_int Try.underlying3 (hval 1 3 v1 rfl rfl) h1
  have ib1 := bounds_i64 i1
  obtain ⟨x2, rfl, rfl, rfl, i2⟩ := open_int Try.underlying3 (hval 2 3 v2 rfl rfl) h2
  have ib2 := bounds_i64 i2
  clear hA0 hval0
  refine (walk x0 o0 c0 x1 ib1.1 ib1.2 x2 ib2.1 ib2.2 W hr0).mono fun e W' ⟨he, bel⟩ => ?_
  subst he
  exact ⟨_, rfl, _, _, _, [], _, [], hW', trodAll_mk1 (shut_bool Try.underlying4 _), (trodAll_cons_mk (Below.trod laidOut (by kernel_rfl) (of_decide_eq_true (by kernel_rfl)) k0 bel lt0) (trodAll_cons_mk (shut_int Try.underlying3 i1) (trodAll_cons_mk (shut_int Try.underlying3 i2) trodAll_mk0))), rfl, bel.frame _, fun h => by cases h⟩

theorem over : Rows.pcmPartsRow.holds Try.pinned (OpenSpec.ofChange Rows.pcmPartsSpec) :=
  OpenClaim.holds_of_wide 6 Try.f6 rfl rfl rfl rfl rfl rfl rfl ⟨rfl, rfl, rfl, rfl, rfl⟩ rfl rfl rfl rfl rfl (by kernel_rfl) Try.func6 (by kernel_rfl)
    (of_decide_eq_true (by kernel_rfl)) (by unfold Func.isWrapper; first | (rw [if_pos (by decide +kernel)]; kernel_rfl) | (rw [if_neg (by decide +kernel)]; exact ⟨rfl, rfl⟩))
    (fun os started H enc _ => lifted os started H enc)

end Go.Proofs.Ytolmijpecomkcaa.pcmParts
namespace Go.Proofs.Ytolmijpecomkcaa
theorem pcmParts_holds : Rows.PcmPartsSaid := pcmParts.over
#print axioms pcmParts_holds
end Go.Proofs.Ytolmijpecomkcaa
