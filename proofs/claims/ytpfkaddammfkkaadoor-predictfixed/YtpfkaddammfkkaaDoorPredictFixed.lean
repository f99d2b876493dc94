/-
  PredictFixed: what a fixed predictor leaves over of any numbers, and back, is what the document says. No condition.
-/
import Derived.Test.YtpfkaddammfkkaaDoorQ9awake
import Derived.Test.YtpfkaddammfkkaaDoorQ9shift
import Derived.Test.YtpfkaddammfkkaaDoorQ9laid
import Derived.Test.YtpfkaddammfkkaaDoorP9args
import Derived.Test.YtpfkaddammfkkaaDoorR9unst
import Derived.Test.YtpfkaddammfkkaaDoorR9ster
import Derived.Test.YtpfkaddammfkkaaDoorCards
import Derived.Test.YtpfkaddammfkkaaDoorTie
import Derived.WalkKit
import Derived.ProofKit
import Derived.OpenShut
import Derived.ShutString
import Derived.ChangeOld
import Derived.Below
import Derived.SizedLaws
import Derived.Carry
namespace Go.Proofs.YtpfkaddammfkkaaDoor.predictFixed
open Go.ChangeShapes Go.WideShapes Go.ChangeAt Go.RowKit
open Go.ChangeMaps (open_string shut_string)
set_option linter.unusedSimpArgs false
set_option linter.unusedVariables false

theorem own : ownKnob Tryd.prog.godebug = none := by kernel_rfl
theorem laidOut : laidOutB Tryd.prog = true := by kernel_rfl

set_option maxRecDepth 20000 in
set_option maxHeartbeats 3200000 in
theorem walk (order : Int) (order1 : -9223372036854775808 ≤ order) (order2 : order ≤ 9223372036854775807) (warm : List Int) (warmo : Option Addr) (warmc : Nat) (hwarmc : warm.length ≤ warmc) (hwarm0 : warmo = none → warmc = 0) (hwarm9 : warm.length ≤ 17592186043904) (l : List Int) (lo : Option Addr) (lc : Nat) (hlc : l.length ≤ lc) (hl0 : lo = none → lc = 0) (hl9 : l.length ≤ 17592186043904) (w : World) (rwarm : IntsAt w warmo warm) (rl : IntsAt w lo l) (hT : Tz w) :
    Calls Tryd.prog 3 #[.int .i64 order, .slice warmo warm.length warmc, .slice lo l.length lc] w fun e w' => e = .returned (.bool true) ∧ Below w.heap.size w w' := by

  have KAw : Hid (∀ wx, Below w.heap.size w wx → Calls Tryd.prog 14 #[] wx fun e w' => e = .returned (.bool true) ∧ Below wx.heap.size wx w') := fun wx hb => awake_spec wx (hT.below hb)
  have HT0 : Hid (Tz w) := hT
  clear hT
  have HB0 : Hid (Below w.heap.size w w) := Below.refl _ _
  have Iwarm : Hid (IntsAt w warmo warm) := rwarm
  clear rwarm
  have Il : Hid (IntsAt w lo l) := rl
  clear rl
  obtain ⟨A, hA⟩ : ∃ A, A = fixR order l := ⟨_, rfl⟩
  obtain ⟨B, hB⟩ : ∃ B, B = unfR order warm l := ⟨_, rfl⟩
  have KF : Hid (∀ wx, IntsAt wx lo l → Calls Tryd.prog 9 #[.int .i64 order, .slice lo l.length lc] wx (Ret2 A wx)) := fun wx h => by rw [hA]; exact qfixed_spec order l lo lc hlc wx h
  have KX : Hid (∀ wx, IntsAt wx lo l → Calls Tryd.prog 10 #[.int .i64 order, .slice lo l.length lc] wx (Ret2 A wx)) := fun wx h => by rw [hA]; exact xfixed_spec order l lo lc wx h
  have KU : Hid (∀ wx, IntsAt wx warmo warm → IntsAt wx lo l → Calls Tryd.prog 11 #[.int .i64 order, .slice warmo warm.length warmc, .slice lo l.length lc] wx (Ret2 B wx)) := fun wx g h => by rw [hB]; exact qunfixed_spec order warm l warmo lo warmc lc hl9 wx g h
  have KV : Hid (∀ wx, IntsAt wx warmo warm → IntsAt wx lo l → Calls Tryd.prog 12 #[.int .i64 order, .slice warmo warm.length warmc, .slice lo l.length lc] wx (Ret2 B wx)) := fun wx g h => by rw [hB]; exact xunfixed_spec order warm l warmo lo warmc lc hwarm0 hl9 wx g h
  clear hA hB
  go_enter Tryd.func3, Tryd.ntmps3
  go_wp2_with fail
  refine (KF.out w Il.out).mono ?_
  rintro e v1 ⟨pa, pc, rfl, h1, hb⟩
  have HBn : Hid (Below w.heap.size w v1) := HB0.out.trans (hb.mono HB0.out.size)
  clear HB0
  have HB0 : Hid (Below w.heap.size w v1) := HBn.out
  clear HBn
  have Iwarmn : Hid (IntsAt v1 warmo warm) := Iwarm.out.below hb
  clear Iwarm
  have Iwarm : Hid (IntsAt v1 warmo warm) := Iwarmn.out
  clear Iwarmn
  have Iln : Hid (IntsAt v1 lo l) := Il.out.below hb
  clear Il
  have Il : Hid (IntsAt v1 lo l) := Iln.out
  clear Iln
  clear hb
  have Ip : Hid (IntsAt v1 pa (ansL A)) := h1
  clear h1
  go_wp2_with fail
  refine (KX.out v1 Il.out).mono ?_
  rintro e v2 ⟨qa, qc, rfl, h1, hb⟩
  have HBn : Hid (Below w.heap.size w v2) := HB0.out.trans (hb.mono HB0.out.size)
  clear HB0
  have HB0 : Hid (Below w.heap.size w v2) := HBn.out
  clear HBn
  have Iwarmn : Hid (IntsAt v2 warmo warm) := Iwarm.out.below hb
  clear Iwarm
  have Iwarm : Hid (IntsAt v2 warmo warm) := Iwarmn.out
  clear Iwarmn
  have Iln : Hid (IntsAt v2 lo l) := Il.out.below hb
  clear Il
  have Il : Hid (IntsAt v2 lo l) := Iln.out
  clear Iln
  have Ipn : Hid (IntsAt v2 pa (ansL A)) := Ip.out.below hb
  clear Ip
  have Ip : Hid (IntsAt v2 pa (ansL A)) := Ipn.out
  clear Ipn
  clear hb
  have Iq : Hid (IntsAt v2 qa (ansL A)) := h1
  clear h1
  go_wp2_with fail
  refine (KU.out v2 Iwarm.out Il.out).mono ?_
  rintro e v3 ⟨ra, rc, rfl, h1, hb⟩
  have HBn : Hid (Below w.heap.size w v3) := HB0.out.trans (hb.mono HB0.out.size)
  clear HB0
  have HB0 : Hid (Below w.heap.size w v3) := HBn.out
  clear HBn
  have Iwarmn : Hid (IntsAt v3 warmo warm) := Iwarm.out.below hb
  clear Iwarm
  have Iwarm : Hid (IntsAt v3 warmo warm) := Iwarmn.out
  clear Iwarmn
  have Iln : Hid (IntsAt v3 lo l) := Il.out.below hb
  clear Il
  have Il : Hid (IntsAt v3 lo l) := Iln.out
  clear Iln
  have Ipn : Hid (IntsAt v3 pa (ansL A)) := Ip.out.below hb
  clear Ip
  have Ip : Hid (IntsAt v3 pa (ansL A)) := Ipn.out
  clear Ipn
  have Iqn : Hid (IntsAt v3 qa (ansL A)) := Iq.out.below hb
  clear Iq
  have Iq : Hid (IntsAt v3 qa (ansL A)) := Iqn.out
  clear Iqn
  clear hb
  have Ir : Hid (IntsAt v3 ra (ansL B)) := h1
  clear h1
  go_wp2_with fail
  refine (KV.out v3 Iwarm.out Il.out).mono ?_
  rintro e v4 ⟨sa, sc, rfl, h1, hb⟩
  have HBn : Hid (Below w.heap.size w v4) := HB0.out.trans (hb.mono HB0.out.size)
  clear HB0
  have HB0 : Hid (Below w.heap.size w v4) := HBn.out
  clear HBn
  have Iwarmn : Hid (IntsAt v4 warmo warm) := Iwarm.out.below hb
  clear Iwarm
  have Iwarm : Hid (IntsAt v4 warmo warm) := Iwarmn.out
  clear Iwarmn
  have Iln : Hid (IntsAt v4 lo l) := Il.out.below hb
  clear Il
  have Il : Hid (IntsAt v4 lo l) := Iln.out
  clear Iln
  have Ipn : Hid (IntsAt v4 pa (ansL A)) := Ip.out.below hb
  clear Ip
  have Ip : Hid (IntsAt v4 pa (ansL A)) := Ipn.out
  clear Ipn
  have Iqn : Hid (IntsAt v4 qa (ansL A)) := Iq.out.below hb
  clear Iq
  have Iq : Hid (IntsAt v4 qa (ansL A)) := Iqn.out
  clear Iqn
  have Irn : Hid (IntsAt v4 ra (ansL B)) := Ir.out.below hb
  clear Ir
  have Ir : Hid (IntsAt v4 ra (ansL B)) := Irn.out
  clear Irn
  clear hb
  have Is : Hid (IntsAt v4 sa (ansL B)) := h1
  clear h1
  go_wp2_with fail
  refine (same_same (ansL A) _ _ pc qc v4 Ip.out Iq.out).mono ?_
  rintro e v5 ⟨rfl, nn, hq⟩
  have hb : Below v4.heap.size v4 v5 := by rw [hq]; exact below_drewN _ _
  clear hq
  have HBn : Hid (Below w.heap.size w v5) := HB0.out.trans (hb.mono HB0.out.size)
  clear HB0
  have HB0 : Hid (Below w.heap.size w v5) := HBn.out
  clear HBn
  have Iwarmn : Hid (IntsAt v5 warmo warm) := Iwarm.out.below hb
  clear Iwarm
  have Iwarm : Hid (IntsAt v5 warmo warm) := Iwarmn.out
  clear Iwarmn
  have Iln : Hid (IntsAt v5 lo l) := Il.out.below hb
  clear Il
  have Il : Hid (IntsAt v5 lo l) := Iln.out
  clear Iln
  have Ipn : Hid (IntsAt v5 pa (ansL A)) := Ip.out.below hb
  clear Ip
  have Ip : Hid (IntsAt v5 pa (ansL A)) := Ipn.out
  clear Ipn
  have Iqn : Hid (IntsAt v5 qa (ansL A)) := Iq.out.below hb
  clear Iq
  have Iq : Hid (IntsAt v5 qa (ansL A)) := Iqn.out
  clear Iqn
  have Irn : Hid (IntsAt v5 ra (ansL B)) := Ir.out.below hb
  clear Ir
  have Ir : Hid (IntsAt v5 ra (ansL B)) := Irn.out
  clear Irn
  have Isn : Hid (IntsAt v5 sa (ansL B)) := Is.out.below hb
  clear Is
  have Is : Hid (IntsAt v5 sa (ansL B)) := Isn.out
  clear Isn
  clear hb
  go_wp2_with fail
  refine (same_same (ansL B) _ _ rc sc v5 Ir.out Is.out).mono ?_
  rintro e v6 ⟨rfl, nn, hq⟩
  have hb : Below v5.heap.size v5 v6 := by rw [hq]; exact below_drewN _ _
  clear hq
  have HBn : Hid (Below w.heap.size w v6) := HB0.out.trans (hb.mono HB0.out.size)
  clear HB0
  have HB0 : Hid (Below w.heap.size w v6) := HBn.out
  clear HBn
  have Iwarmn : Hid (IntsAt v6 warmo warm) := Iwarm.out.below hb
  clear Iwarm
  have Iwarm : Hid (IntsAt v6 warmo warm) := Iwarmn.out
  clear Iwarmn
  have Iln : Hid (IntsAt v6 lo l) := Il.out.below hb
  clear Il
  have Il : Hid (IntsAt v6 lo l) := Iln.out
  clear Iln
  have Ipn : Hid (IntsAt v6 pa (ansL A)) := Ip.out.below hb
  clear Ip
  have Ip : Hid (IntsAt v6 pa (ansL A)) := Ipn.out
  clear Ipn
  have Iqn : Hid (IntsAt v6 qa (ansL A)) := Iq.out.below hb
  clear Iq
  have Iq : Hid (IntsAt v6 qa (ansL A)) := Iqn.out
  clear Iqn
  have Irn : Hid (IntsAt v6 ra (ansL B)) := Ir.out.below hb
  clear Ir
  have Ir : Hid (IntsAt v6 ra (ansL B)) := Irn.out
  clear Irn
  have Isn : Hid (IntsAt v6 sa (ansL B)) := Is.out.below hb
  clear Is
  have Is : Hid (IntsAt v6 sa (ansL B)) := Isn.out
  clear Isn
  clear hb
  go_wp2_with fail
  refine (KAw.out v6 HB0.out).mono ?_
  rintro e vz ⟨rfl, hb⟩
  have HBn : Hid (Below w.heap.size w vz) := HB0.out.trans (hb.mono HB0.out.size)
  clear HB0
  have HB0 : Hid (Below w.heap.size w vz) := HBn.out
  clear HBn
  have Iwarmn : Hid (IntsAt vz warmo warm) := Iwarm.out.below hb
  clear Iwarm
  have Iwarm : Hid (IntsAt vz warmo warm) := Iwarmn.out
  clear Iwarmn
  have Iln : Hid (IntsAt vz lo l) := Il.out.below hb
  clear Il
  have Il : Hid (IntsAt vz lo l) := Iln.out
  clear Iln
  have Ipn : Hid (IntsAt vz pa (ansL A)) := Ip.out.below hb
  clear Ip
  have Ip : Hid (IntsAt vz pa (ansL A)) := Ipn.out
  clear Ipn
  have Iqn : Hid (IntsAt vz qa (ansL A)) := Iq.out.below hb
  clear Iq
  have Iq : Hid (IntsAt vz qa (ansL A)) := Iqn.out
  clear Iqn
  have Irn : Hid (IntsAt vz ra (ansL B)) := Ir.out.below hb
  clear Ir
  have Ir : Hid (IntsAt vz ra (ansL B)) := Irn.out
  clear Irn
  have Isn : Hid (IntsAt vz sa (ansL B)) := Is.out.below hb
  clear Is
  have Is : Hid (IntsAt vz sa (ansL B)) := Isn.out
  clear Isn
  clear hb
  go_wp2_with fail
  go_ret
  exact ⟨rfl, HB0.out⟩


theorem door_met (os : Os) (args : Array Value) : laidMetH Tryd.prog Rows.predictFixedRow.laid ((World.doorLaid Tryd.prog 400 os).forCall (fun _ _ => 0) ⟨#[], args, []⟩).memory :=
  laidMetH_of_parts3 (fuel := 8) (laidMet_of_run' 8 (by kernel_rfl) (by kernel_rfl)) (by kernel_rfl) (by kernel_rfl)

set_option maxRecDepth 100000 in
theorem lifted (os : Os) (started : os.Started) (H : Type) (enc : TypeId × Value → H) :
    ReturnsInHanded {} Tryd.checked os 3 .any (fun w args => (Rows.predictFixedSpec.pre enc Tryd.prog Tryd.f3 [] false w args ∧ laidMetH Tryd.prog Rows.predictFixedRow.laid w) ∧ sizedMet enc Tryd.prog Tryd.f3 (OpenSpec.ofChange Rows.predictFixedSpec) false w args)
      (Rows.predictFixedSpec.post enc Tryd.prog Tryd.f3 false true false false) := by
  refine returnsInHanded_of_change_and (C := Tryd.checked) (X := fun w _ => laidMetH Tryd.prog Rows.predictFixedRow.laid w) (fun _ _ _ hh h => h.of_heap hh) own started (by kernel_rfl) Tryd.func3
    (ChangeSpec.witness_shaped (enc := enc) (C := Tryd.checked) (os := os) (X := fun w _ => laidMetH Tryd.prog Rows.predictFixedRow.laid w) false (World.doorLaid Tryd.prog 400 os) #[.int .i64 0, .slice none 0 0, .slice none 0 0] 8 rfl (World.shaped_of_RefB (by kernel_rfl) (by kernel_rfl)) (by kernel_rfl) (by kernel_rfl) (by kernel_rfl) (door_met os _)) ?_
  intro W base args ds gs before hval0 hW _ hsz0 hL _
  have hval : ∀ (j : Nat) t v, Tryd.f3.params[j]? = some t → args[j]? = some v → Value.okWide Tryd.prog W .any base t v := hval0
  have hsz : (DataW.weightsEach Tryd.prog (Tryd.f3.params.toList ++ Rows.predictFixedSpec.plain.varTypes Tryd.prog) (ds ++ gs)).all (· ≤ reachBytes) = true := hsz0
  have hW' := hW
  obtain ⟨p, q, hA0, hV, rfl, hfz, hnd⟩ := hW
  have hA : DataW.TrodAll enc Tryd.prog W 0 (fun _ => true) true Tryd.f3.params.toList args.toList ds p := hA0
  rw [Tryd.params3] at hA hval hsz
  obtain ⟨v0, vs0, d0, ds0, p0, q0, hargs, rfl, rfl, h0, r0⟩ := trodAll_cons hA
  obtain ⟨v1, vs1, d1, ds1, p1, q1, rfl, rfl, rfl, h1, r1⟩ := trodAll_cons r0
  obtain ⟨v2, vs2, d2, ds2, p2, q2, rfl, rfl, rfl, h2, r2⟩ := trodAll_cons r1
  obtain ⟨rfl, rfl, rfl⟩ := trodAll_nil r2
  obtain rfl : args = #[v0, v1, v2] := by cases args; simp_all
  obtain ⟨rfl, rfl⟩ := trodVars_none hV
  have hall := List.all_eq_true.1 hsz
  obtain ⟨x0, rfl, rfl, rfl, i0⟩ := open_int Tryd.underlying3 (hval 0 3 v0 rfl rfl) h0
  have ib0 := bounds_i64 i0
  have hw1 : ∀ n ∈ d1.weights Tryd.prog 22, n ≤ reachBytes := fun n hn => by
    have := hall n (List.mem_append.2 (.inr (List.mem_append.2 (.inl hn))))
    exact of_decide_eq_true this
  have k1 := h1
  have lt1 : ∀ x ∈ p1, x.block < W.heap.size := by obtain ⟨m, hm⟩ := k1; exact DataW.trod_lt m _ _ _ hm
  obtain ⟨o1, c1, x1, rfl, hr1, hc1, hn1, hm1⟩ := open_list (hval 1 22 v1 rfl rfl) h1 hw1
  have hw2 : ∀ n ∈ d2.weights Tryd.prog 22, n ≤ reachBytes := fun n hn => by
    have := hall n (List.mem_append.2 (.inr (List.mem_append.2 (.inr (List.mem_append.2 (.inl hn))))))
    exact of_decide_eq_true this
  have k2 := h2
  have lt2 : ∀ x ∈ p2, x.block < W.heap.size := by obtain ⟨m, hm⟩ := k2; exact DataW.trod_lt m _ _ _ hm
  obtain ⟨o2, c2, x2, rfl, hr2, hc2, hn2, hm2⟩ := open_list (hval 2 22 v2 rfl rfl) h2 hw2
  have hT : Tz W := tz_of_laid hL
  clear hA0 hval0
  refine (walk x0 ib0.1 ib0.2 x1 o1 c1 hc1 hn1 hm1 x2 o2 c2 hc2 hn2 hm2 W hr1 hr2 hT).mono fun e W' ⟨he, bel⟩ => ?_
  subst he
  exact ⟨_, rfl, _, _, _, [], _, [], hW', trodAll_mk1 (shut_bool Tryd.underlying4 _), (trodAll_cons_mk (shut_int Tryd.underlying3 i0) (trodAll_cons_mk (Below.trod laidOut (by kernel_rfl) (of_decide_eq_true (by kernel_rfl)) k1 bel lt1) (trodAll_cons_mk (Below.trod laidOut (by kernel_rfl) (of_decide_eq_true (by kernel_rfl)) k2 bel lt2) trodAll_mk0))), rfl, bel.frame _, fun h => by cases h⟩

theorem said : Rows.PredictFixedSaid :=
  OpenClaim.holds_of_wide 3 Tryd.f3 rfl rfl rfl rfl rfl rfl rfl ⟨rfl, rfl, rfl, rfl, rfl⟩ rfl rfl rfl rfl rfl (by kernel_rfl) Tryd.func3 (by kernel_rfl)
    (of_decide_eq_true (by kernel_rfl)) (by unfold Func.isWrapper; first | (rw [if_pos (by decide +kernel)]; kernel_rfl) | (rw [if_neg (by decide +kernel)]; exact ⟨rfl, rfl⟩))
    (fun os started H enc _ => lifted os started H enc)

/-- No parameter wants a stand-in; the program's own looks are off. -/
theorem plain (f : FuncId) (fn : Func) (hf : Tryd.pinned.checked.prog.funcNamed Rows.predictFixedRow.func = some f) (hfn : Tryd.pinned.checked.prog.funcs[f]? = some fn) :
    false = Tryd.pinned.checked.prog.looks [] ∧ ∀ (j : Nat) t, fn.params[j]? = some t → Tryd.pinned.checked.prog.wantsStandIn t = false := by
  obtain rfl : f = 3 := Option.some.inj ((show Tryd.prog.funcNamed Rows.predictFixedRow.func = some 3 by kernel_rfl).symm.trans hf) |>.symm
  obtain rfl : fn = Tryd.f3 := (Option.some.inj (Tryd.func3.symm.trans hfn)).symm
  refine ⟨by kernel_rfl, fun j t ht => ?_⟩
  rw [Tryd.params3] at ht
  have hm := Array.mem_of_getElem? ht
  simp at hm
  rcases hm with rfl | rfl
  · exact (show Tryd.prog.wantsStandIn 3 = false by kernel_rfl)
  · exact (show Tryd.prog.wantsStandIn 22 = false by kernel_rfl)

theorem card : Rows.PredictFixedCardSaid :=
  Claim7.holds_tied_plain_at .later [] _ _ _ _ said (fun _ h => by cases h) (by kernel_rfl) (fun _ h => by cases h) predictFixed_row_tie rfl ⟨rfl, rfl⟩ (by kernel_rfl) rfl plain (by kernel_rfl)

end Go.Proofs.YtpfkaddammfkkaaDoor.predictFixed
namespace Go.Proofs.YtpfkaddammfkkaaDoor
theorem predictFixed_card : Rows.PredictFixedCardSaid := predictFixed.card
#print axioms predictFixed_card
end Go.Proofs.YtpfkaddammfkkaaDoor
