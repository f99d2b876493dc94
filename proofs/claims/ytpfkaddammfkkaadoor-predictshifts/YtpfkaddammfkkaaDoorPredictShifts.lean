/-
  PredictShifts: the bits that are wasted, all divided by a power of two, and all times it, are what the document says. No condition.
-/
import Derived.Test.YtpfkaddammfkkaaDoorQ9awake
import Derived.Test.YtpfkaddammfkkaaDoorQ9shift
import Derived.Test.YtpfkaddammfkkaaDoorQ9laid
import Derived.Test.YtpfkaddammfkkaaDoorP9args
import Derived.Test.YtpfkaddammfkkaaDoorR9unst
import Derived.Test.YtpfkaddammfkkaaDoorR9ster
import Derived.Test.YtpfkaddammfkkaaDoorCards
import Derived.Test.YtpfkaddammfkkaaDoorTie
import Derived.WalkKit
import Derived.ProofKit
import Derived.OpenShut
import Derived.ShutString
import Derived.ChangeOld
import Derived.Below
import Derived.SizedLaws
import Derived.Carry
namespace Go.Proofs.YtpfkaddammfkkaaDoor.predictShifts
open Go.ChangeShapes Go.WideShapes Go.ChangeAt Go.RowKit
open Go.ChangeMaps (open_string shut_string)
set_option linter.unusedSimpArgs false
set_option linter.unusedVariables false

theorem own : ownKnob Tryd.prog.godebug = none := by kernel_rfl
theorem laidOut : laidOutB Tryd.prog = true := by kernel_rfl

set_option maxRecDepth 20000 in
set_option maxHeartbeats 3200000 in
theorem walk (l : List Int) (lo : Option Addr) (lc : Nat) (hlc : l.length ≤ lc) (hl0 : lo = none → lc = 0) (hl9 : l.length ≤ 17592186043904) (by_ : Int) (by_1 : -9223372036854775808 ≤ by_) (by_2 : by_ ≤ 9223372036854775807) (w : World) (rl : IntsAt w lo l) (hT : Tz w) :
    Calls Tryd.prog 5 #[.slice lo l.length lc, .int .i64 by_] w fun e w' => e = .returned (.bool true) ∧ Below w.heap.size w w' := by

  have KAw : Hid (∀ wx, Below w.heap.size w wx → Calls Tryd.prog 14 #[] wx fun e w' => e = .returned (.bool true) ∧ Below wx.heap.size wx w') := fun wx hb => awake_spec wx (hT.below hb)
  have HT0 : Hid (Tz w) := hT
  clear hT
  have HB0 : Hid (Below w.heap.size w w) := Below.refl _ _
  have Il : Hid (IntsAt w lo l) := rl
  clear rl
  obtain ⟨A, hA⟩ : ∃ A, A = shfR l by_ := ⟨_, rfl⟩
  have KAP : Hid (∀ wx, IntsAt wx lo l → Calls Tryd.prog 19 #[.slice lo l.length lc, .int .i64 by_] wx (Ret2 A wx)) := fun wx g0 => by rw [hA]; exact qshift_spec l by_ lo lc wx g0
  have KAX : Hid (∀ wx, IntsAt wx lo l → Calls Tryd.prog 20 #[.slice lo l.length lc, .int .i64 by_] wx (Ret2 A wx)) := fun wx g0 => by rw [hA]; exact xshift_spec l by_ lo lc wx g0
  clear hA
  obtain ⟨B, hB⟩ : ∃ B, B = unsR l by_ := ⟨_, rfl⟩
  have KBP : Hid (∀ wx, IntsAt wx lo l → Calls Tryd.prog 21 #[.slice lo l.length lc, .int .i64 by_] wx (Ret2 B wx)) := fun wx g0 => by rw [hB]; exact qunshift_spec l by_ lo lc wx g0
  have KBX : Hid (∀ wx, IntsAt wx lo l → Calls Tryd.prog 22 #[.slice lo l.length lc, .int .i64 by_] wx (Ret2 B wx)) := fun wx g0 => by rw [hB]; exact xunshift_spec l by_ lo lc wx g0
  clear hB
  go_enter Tryd.func5, Tryd.ntmps5
  go_wp2_with fail
  refine (KAP.out w Il.out).mono ?_
  rintro e v1 ⟨pa, pc, rfl, h1, hb⟩
  have HBn : Hid (Below w.heap.size w v1) := HB0.out.trans (hb.mono HB0.out.size)
  clear HB0
  have HB0 : Hid (Below w.heap.size w v1) := HBn.out
  clear HBn
  have Iln : Hid (IntsAt v1 lo l) := Il.out.below hb
  clear Il
  have Il : Hid (IntsAt v1 lo l) := Iln.out
  clear Iln
  clear hb
  have Ip : Hid (IntsAt v1 pa (ansL A)) := h1
  clear h1
  go_wp2_with fail
  refine (KAX.out v1 Il.out).mono ?_
  rintro e v2 ⟨qa, qc, rfl, h1, hb⟩
  have HBn : Hid (Below w.heap.size w v2) := HB0.out.trans (hb.mono HB0.out.size)
  clear HB0
  have HB0 : Hid (Below w.heap.size w v2) := HBn.out
  clear HBn
  have Iln : Hid (IntsAt v2 lo l) := Il.out.below hb
  clear Il
  have Il : Hid (IntsAt v2 lo l) := Iln.out
  clear Iln
  have Ipn : Hid (IntsAt v2 pa (ansL A)) := Ip.out.below hb
  clear Ip
  have Ip : Hid (IntsAt v2 pa (ansL A)) := Ipn.out
  clear Ipn
  clear hb
  have Iq : Hid (IntsAt v2 qa (ansL A)) := h1
  clear h1
  go_wp2_with fail
  refine (KBP.out v2 Il.out).mono ?_
  rintro e v3 ⟨ra, rc, rfl, h1, hb⟩
  have HBn : Hid (Below w.heap.size w v3) := HB0.out.trans (hb.mono HB0.out.size)
  clear HB0
  have HB0 : Hid (Below w.heap.size w v3) := HBn.out
  clear HBn
  have Iln : Hid (IntsAt v3 lo l) := Il.out.below hb
  clear Il
  have Il : Hid (IntsAt v3 lo l) := Iln.out
  clear Iln
  have Ipn : Hid (IntsAt v3 pa (ansL A)) := Ip.out.below hb
  clear Ip
  have Ip : Hid (IntsAt v3 pa (ansL A)) := Ipn.out
  clear Ipn
  have Iqn : Hid (IntsAt v3 qa (ansL A)) := Iq.out.below hb
  clear Iq
  have Iq : Hid (IntsAt v3 qa (ansL A)) := Iqn.out
  clear Iqn
  clear hb
  have Ir : Hid (IntsAt v3 ra (ansL B)) := h1
  clear h1
  go_wp2_with fail
  refine (KBX.out v3 Il.out).mono ?_
  rintro e v4 ⟨sa, sc, rfl, h1, hb⟩
  have HBn : Hid (Below w.heap.size w v4) := HB0.out.trans (hb.mono HB0.out.size)
  clear HB0
  have HB0 : Hid (Below w.heap.size w v4) := HBn.out
  clear HBn
  have Iln : Hid (IntsAt v4 lo l) := Il.out.below hb
  clear Il
  have Il : Hid (IntsAt v4 lo l) := Iln.out
  clear Iln
  have Ipn : Hid (IntsAt v4 pa (ansL A)) := Ip.out.below hb
  clear Ip
  have Ip : Hid (IntsAt v4 pa (ansL A)) := Ipn.out
  clear Ipn
  have Iqn : Hid (IntsAt v4 qa (ansL A)) := Iq.out.below hb
  clear Iq
  have Iq : Hid (IntsAt v4 qa (ansL A)) := Iqn.out
  clear Iqn
  have Irn : Hid (IntsAt v4 ra (ansL B)) := Ir.out.below hb
  clear Ir
  have Ir : Hid (IntsAt v4 ra (ansL B)) := Irn.out
  clear Irn
  clear hb
  have Is : Hid (IntsAt v4 sa (ansL B)) := h1
  clear h1
  go_wp2_with fail
  refine (qwasted_spec l lo lc v4 (HT0.out.below HB0.out) Il.out).mono ?_
  rintro e v5 ⟨rfl, hb⟩
  have HBn : Hid (Below w.heap.size w v5) := HB0.out.trans (hb.mono HB0.out.size)
  clear HB0
  have HB0 : Hid (Below w.heap.size w v5) := HBn.out
  clear HBn
  have Iln : Hid (IntsAt v5 lo l) := Il.out.below hb
  clear Il
  have Il : Hid (IntsAt v5 lo l) := Iln.out
  clear Iln
  have Ipn : Hid (IntsAt v5 pa (ansL A)) := Ip.out.below hb
  clear Ip
  have Ip : Hid (IntsAt v5 pa (ansL A)) := Ipn.out
  clear Ipn
  have Iqn : Hid (IntsAt v5 qa (ansL A)) := Iq.out.below hb
  clear Iq
  have Iq : Hid (IntsAt v5 qa (ansL A)) := Iqn.out
  clear Iqn
  have Irn : Hid (IntsAt v5 ra (ansL B)) := Ir.out.below hb
  clear Ir
  have Ir : Hid (IntsAt v5 ra (ansL B)) := Irn.out
  clear Irn
  have Isn : Hid (IntsAt v5 sa (ansL B)) := Is.out.below hb
  clear Is
  have Is : Hid (IntsAt v5 sa (ansL B)) := Isn.out
  clear Isn
  clear hb
  have kw := xwasted_spec l lo lc v5 Il.out
  generalize wasN l = wn at *
  go_wp2_with fail
  refine (kw).mono ?_
  rintro e v6 ⟨rfl, hw2⟩
  have hb : Below v5.heap.size v5 v6 := by rw [hw2]; exact Below.refl _ _
  clear hw2
  have HBn : Hid (Below w.heap.size w v6) := HB0.out.trans (hb.mono HB0.out.size)
  clear HB0
  have HB0 : Hid (Below w.heap.size w v6) := HBn.out
  clear HBn
  have Iln : Hid (IntsAt v6 lo l) := Il.out.below hb
  clear Il
  have Il : Hid (IntsAt v6 lo l) := Iln.out
  clear Iln
  have Ipn : Hid (IntsAt v6 pa (ansL A)) := Ip.out.below hb
  clear Ip
  have Ip : Hid (IntsAt v6 pa (ansL A)) := Ipn.out
  clear Ipn
  have Iqn : Hid (IntsAt v6 qa (ansL A)) := Iq.out.below hb
  clear Iq
  have Iq : Hid (IntsAt v6 qa (ansL A)) := Iqn.out
  clear Iqn
  have Irn : Hid (IntsAt v6 ra (ansL B)) := Ir.out.below hb
  clear Ir
  have Ir : Hid (IntsAt v6 ra (ansL B)) := Irn.out
  clear Irn
  have Isn : Hid (IntsAt v6 sa (ansL B)) := Is.out.below hb
  clear Is
  have Is : Hid (IntsAt v6 sa (ansL B)) := Isn.out
  clear Isn
  clear hb kw
  go_wp2_with fail
  refine (same_same (ansL A) _ _ pc qc v6 Ip.out Iq.out).mono ?_
  rintro e v7 ⟨rfl, nn, hq⟩
  have hb : Below v6.heap.size v6 v7 := by rw [hq]; exact below_drewN _ _
  clear hq
  have HBn : Hid (Below w.heap.size w v7) := HB0.out.trans (hb.mono HB0.out.size)
  clear HB0
  have HB0 : Hid (Below w.heap.size w v7) := HBn.out
  clear HBn
  have Iln : Hid (IntsAt v7 lo l) := Il.out.below hb
  clear Il
  have Il : Hid (IntsAt v7 lo l) := Iln.out
  clear Iln
  have Ipn : Hid (IntsAt v7 pa (ansL A)) := Ip.out.below hb
  clear Ip
  have Ip : Hid (IntsAt v7 pa (ansL A)) := Ipn.out
  clear Ipn
  have Iqn : Hid (IntsAt v7 qa (ansL A)) := Iq.out.below hb
  clear Iq
  have Iq : Hid (IntsAt v7 qa (ansL A)) := Iqn.out
  clear Iqn
  have Irn : Hid (IntsAt v7 ra (ansL B)) := Ir.out.below hb
  clear Ir
  have Ir : Hid (IntsAt v7 ra (ansL B)) := Irn.out
  clear Irn
  have Isn : Hid (IntsAt v7 sa (ansL B)) := Is.out.below hb
  clear Is
  have Is : Hid (IntsAt v7 sa (ansL B)) := Isn.out
  clear Isn
  clear hb
  go_wp2_with fail
  refine (same_same (ansL B) _ _ rc sc v7 Ir.out Is.out).mono ?_
  rintro e v8 ⟨rfl, nn, hq⟩
  have hb : Below v7.heap.size v7 v8 := by rw [hq]; exact below_drewN _ _
  clear hq
  have HBn : Hid (Below w.heap.size w v8) := HB0.out.trans (hb.mono HB0.out.size)
  clear HB0
  have HB0 : Hid (Below w.heap.size w v8) := HBn.out
  clear HBn
  have Iln : Hid (IntsAt v8 lo l) := Il.out.below hb
  clear Il
  have Il : Hid (IntsAt v8 lo l) := Iln.out
  clear Iln
  have Ipn : Hid (IntsAt v8 pa (ansL A)) := Ip.out.below hb
  clear Ip
  have Ip : Hid (IntsAt v8 pa (ansL A)) := Ipn.out
  clear Ipn
  have Iqn : Hid (IntsAt v8 qa (ansL A)) := Iq.out.below hb
  clear Iq
  have Iq : Hid (IntsAt v8 qa (ansL A)) := Iqn.out
  clear Iqn
  have Irn : Hid (IntsAt v8 ra (ansL B)) := Ir.out.below hb
  clear Ir
  have Ir : Hid (IntsAt v8 ra (ansL B)) := Irn.out
  clear Irn
  have Isn : Hid (IntsAt v8 sa (ansL B)) := Is.out.below hb
  clear Is
  have Is : Hid (IntsAt v8 sa (ansL B)) := Isn.out
  clear Isn
  clear hb
  go_wp2_with fail
  refine (KAw.out v8 HB0.out).mono ?_
  rintro e vz ⟨rfl, hb⟩
  have HBn : Hid (Below w.heap.size w vz) := HB0.out.trans (hb.mono HB0.out.size)
  clear HB0
  have HB0 : Hid (Below w.heap.size w vz) := HBn.out
  clear HBn
  have Iln : Hid (IntsAt vz lo l) := Il.out.below hb
  clear Il
  have Il : Hid (IntsAt vz lo l) := Iln.out
  clear Iln
  have Ipn : Hid (IntsAt vz pa (ansL A)) := Ip.out.below hb
  clear Ip
  have Ip : Hid (IntsAt vz pa (ansL A)) := Ipn.out
  clear Ipn
  have Iqn : Hid (IntsAt vz qa (ansL A)) := Iq.out.below hb
  clear Iq
  have Iq : Hid (IntsAt vz qa (ansL A)) := Iqn.out
  clear Iqn
  have Irn : Hid (IntsAt vz ra (ansL B)) := Ir.out.below hb
  clear Ir
  have Ir : Hid (IntsAt vz ra (ansL B)) := Irn.out
  clear Irn
  have Isn : Hid (IntsAt vz sa (ansL B)) := Is.out.below hb
  clear Is
  have Is : Hid (IntsAt vz sa (ansL B)) := Isn.out
  clear Isn
  clear hb
  go_wp2_with fail
  go_ret
  exact ⟨rfl, HB0.out⟩


theorem door_met (os : Os) (args : Array Value) : laidMetH Tryd.prog Rows.predictShiftsRow.laid ((World.doorLaid Tryd.prog 400 os).forCall (fun _ _ => 0) ⟨#[], args, []⟩).memory :=
  laidMetH_of_parts3 (fuel := 8) (laidMet_of_run' 8 (by kernel_rfl) (by kernel_rfl)) (by kernel_rfl) (by kernel_rfl)

set_option maxRecDepth 100000 in
theorem lifted (os : Os) (started : os.Started) (H : Type) (enc : TypeId × Value → H) :
    ReturnsInHanded {} Tryd.checked os 5 .any (fun w args => (Rows.predictShiftsSpec.pre enc Tryd.prog Tryd.f5 [] false w args ∧ laidMetH Tryd.prog Rows.predictShiftsRow.laid w) ∧ sizedMet enc Tryd.prog Tryd.f5 (OpenSpec.ofChange Rows.predictShiftsSpec) false w args)
      (Rows.predictShiftsSpec.post enc Tryd.prog Tryd.f5 false true false false) := by
  refine returnsInHanded_of_change_and (C := Tryd.checked) (X := fun w _ => laidMetH Tryd.prog Rows.predictShiftsRow.laid w) (fun _ _ _ hh h => h.of_heap hh) own started (by kernel_rfl) Tryd.func5
    (ChangeSpec.witness_shaped (enc := enc) (C := Tryd.checked) (os := os) (X := fun w _ => laidMetH Tryd.prog Rows.predictShiftsRow.laid w) false (World.doorLaid Tryd.prog 400 os) #[.slice none 0 0, .int .i64 0] 8 rfl (World.shaped_of_RefB (by kernel_rfl) (by kernel_rfl)) (by kernel_rfl) (by kernel_rfl) (by kernel_rfl) (door_met os _)) ?_
  intro W base args ds gs before hval0 hW _ hsz0 hL _
  have hval : ∀ (j : Nat) t v, Tryd.f5.params[j]? = some t → args[j]? = some v → Value.okWide Tryd.prog W .any base t v := hval0
  have hsz : (DataW.weightsEach Tryd.prog (Tryd.f5.params.toList ++ Rows.predictShiftsSpec.plain.varTypes Tryd.prog) (ds ++ gs)).all (· ≤ reachBytes) = true := hsz0
  have hW' := hW
  obtain ⟨p, q, hA0, hV, rfl, hfz, hnd⟩ := hW
  have hA : DataW.TrodAll enc Tryd.prog W 0 (fun _ => true) true Tryd.f5.params.toList args.toList ds p := hA0
  rw [Tryd.params5] at hA hval hsz
  obtain ⟨v0, vs0, d0, ds0, p0, q0, hargs, rfl, rfl, h0, r0⟩ := trodAll_cons hA
  obtain ⟨v1, vs1, d1, ds1, p1, q1, rfl, rfl, rfl, h1, r1⟩ := trodAll_cons r0
  obtain ⟨rfl, rfl, rfl⟩ := trodAll_nil r1
  obtain rfl : args = #[v0, v1] := by cases args; simp_all
  obtain ⟨rfl, rfl⟩ := trodVars_none hV
  have hall := List.all_eq_true.1 hsz
  have hw0 : ∀ n ∈ d0.weights Tryd.prog 22, n ≤ reachBytes := fun n hn => by
    have := hall n (List.mem_append.2 (.inl hn))
    exact of_decide_eq_true this
  have k0 := h0
  have lt0 : ∀ x ∈ p0, x.block < W.heap.size := by obtain ⟨m, hm⟩ := k0; exact DataW.trod_lt m _ _ _ hm
  obtain ⟨o0, c0, x0, rfl, hr0, hc0, hn0, hm0⟩ := open_list (hval 0 22 v0 rfl rfl) h0 hw0
  obtain ⟨x1, rfl, rfl, rfl, i1⟩ := open_int Tryd.underlying3 (hval 1 3 v1 rfl rfl) h1
  have ib1 := bounds_i64 i1
  have hT : Tz W := tz_of_laid hL
  clear hA0 hval0
  refine (walk x0 o0 c0 hc0 hn0 hm0 x1 ib1.1 ib1.2 W hr0 hT).mono fun e W' ⟨he, bel⟩ => ?_
  subst he
  exact ⟨_, rfl, _, _, _, [], _, [], hW', trodAll_mk1 (shut_bool Tryd.underlying4 _), (trodAll_cons_mk (Below.trod laidOut (by kernel_rfl) (of_decide_eq_true (by kernel_rfl)) k0 bel lt0) (trodAll_cons_mk (shut_int Tryd.underlying3 i1) trodAll_mk0)), rfl, bel.frame _, fun h => by cases h⟩

theorem said : Rows.PredictShiftsSaid :=
  OpenClaim.holds_of_wide 5 Tryd.f5 rfl rfl rfl rfl rfl rfl rfl ⟨rfl, rfl, rfl, rfl, rfl⟩ rfl rfl rfl rfl rfl (by kernel_rfl) Tryd.func5 (by kernel_rfl)
    (of_decide_eq_true (by kernel_rfl)) (by unfold Func.isWrapper; first | (rw [if_pos (by decide +kernel)]; kernel_rfl) | (rw [if_neg (by decide +kernel)]; exact ⟨rfl, rfl⟩))
    (fun os started H enc _ => lifted os started H enc)

/-- No parameter wants a stand-in; the program's own looks are off. -/
theorem plain (f : FuncId) (fn : Func) (hf : Tryd.pinned.checked.prog.funcNamed Rows.predictShiftsRow.func = some f) (hfn : Tryd.pinned.checked.prog.funcs[f]? = some fn) :
    false = Tryd.pinned.checked.prog.looks [] ∧ ∀ (j : Nat) t, fn.params[j]? = some t → Tryd.pinned.checked.prog.wantsStandIn t = false := by
  obtain rfl : f = 5 := Option.some.inj ((show Tryd.prog.funcNamed Rows.predictShiftsRow.func = some 5 by kernel_rfl).symm.trans hf) |>.symm
  obtain rfl : fn = Tryd.f5 := (Option.some.inj (Tryd.func5.symm.trans hfn)).symm
  refine ⟨by kernel_rfl, fun j t ht => ?_⟩
  rw [Tryd.params5] at ht
  have hm := Array.mem_of_getElem? ht
  simp at hm
  rcases hm with rfl | rfl
  · exact (show Tryd.prog.wantsStandIn 22 = false by kernel_rfl)
  · exact (show Tryd.prog.wantsStandIn 3 = false by kernel_rfl)

theorem card : Rows.PredictShiftsCardSaid :=
  Claim7.holds_tied_plain_at .later [] _ _ _ _ said (fun _ h => by cases h) (by kernel_rfl) (fun _ h => by cases h) predictShifts_row_tie rfl ⟨rfl, rfl⟩ (by kernel_rfl) rfl plain (by kernel_rfl)

end Go.Proofs.YtpfkaddammfkkaaDoor.predictShifts
namespace Go.Proofs.YtpfkaddammfkkaaDoor
theorem predictShifts_card : Rows.PredictShiftsCardSaid := predictShifts.card
#print axioms predictShifts_card
end Go.Proofs.YtpfkaddammfkkaaDoor
