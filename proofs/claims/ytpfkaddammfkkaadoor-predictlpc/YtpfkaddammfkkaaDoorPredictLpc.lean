/-
  PredictLpc: what any coefficients leave over of any numbers, and back, is what the document says. No condition.
-/
import Derived.Test.YtpfkaddammfkkaaDoorQ9awake
import Derived.Test.YtpfkaddammfkkaaDoorQ9shift
import Derived.Test.YtpfkaddammfkkaaDoorQ9laid
import Derived.Test.YtpfkaddammfkkaaDoorP9args
import Derived.Test.YtpfkaddammfkkaaDoorR9unst
import Derived.Test.YtpfkaddammfkkaaDoorR9ster
import Derived.Deep.CutRange
import Derived.Test.YtpfkaddammfkkaaDoorCards
import Derived.Test.YtpfkaddammfkkaaDoorTie
import Derived.WalkKit
import Derived.ProofKit
import Derived.OpenShut
import Derived.ShutString
import Derived.ChangeOld
import Derived.Below
import Derived.SizedLaws
import Derived.Carry
namespace Go.Proofs.YtpfkaddammfkkaaDoor.predictLpc
open Go.ChangeShapes Go.WideShapes Go.ChangeAt Go.RowKit
open Go.ChangeMaps (open_string shut_string)
set_option linter.unusedSimpArgs false
set_option linter.unusedVariables false

theorem own : ownKnob Tryd.prog.godebug = none := by kernel_rfl
theorem laidOut : laidOutB Tryd.prog = true := by kernel_rfl

set_option maxRecDepth 20000 in
set_option maxHeartbeats 3200000 in
theorem walk (coefs : List Int) (coefso : Option Addr) (coefsc : Nat) (hcoefsc : coefs.length ≤ coefsc) (hcoefs0 : coefso = none → coefsc = 0) (hcoefs9 : coefs.length ≤ 17592186043904) (sh : Int) (sh1 : -9223372036854775808 ≤ sh) (sh2 : sh ≤ 9223372036854775807) (lsxo : Option Addr) (lsxc : Nat) (lsx : List Int) (lsyo : Option Addr) (lsyc : Nat) (lsy : List Int) (hlsx0 : lsxo = none → lsxc = 0) (hlsy0 : lsyo = none → lsyc = 0) (hlsy9 : lsy.length ≤ 17592186043904) (hlsyc : lsy.length ≤ lsyc) (w : World) (rcoefs : IntsAt w coefso coefs) (rlsx : IntsAt w lsxo lsx) (rlsy : IntsAt w lsyo lsy) (hT : Tz w) :
    Calls Tryd.prog 4 #[.slice coefso coefs.length coefsc, .int .i64 sh, .agg #[.slice lsxo lsx.length lsxc, .slice lsyo lsy.length lsyc]] w fun e w' => e = .returned (.bool true) ∧ Below w.heap.size w w' := by

  have KAw : Hid (∀ wx, Below w.heap.size w wx → Calls Tryd.prog 14 #[] wx fun e w' => e = .returned (.bool true) ∧ Below wx.heap.size wx w') := fun wx hb => awake_spec wx (hT.below hb)
  have HT0 : Hid (Tz w) := hT
  clear hT
  have HB0 : Hid (Below w.heap.size w w) := Below.refl _ _
  have Icoefs : Hid (IntsAt w coefso coefs) := rcoefs
  clear rcoefs
  have Ix : Hid (IntsAt w lsxo lsx) := rlsx
  have Iy : Hid (IntsAt w lsyo lsy) := rlsy
  clear rlsx rlsy
  obtain ⟨A, hA⟩ : ∃ A, A = lpcR coefs sh lsy := ⟨_, rfl⟩
  have KAP : Hid (∀ wx, IntsAt wx coefso coefs → IntsAt wx lsyo lsy → Calls Tryd.prog 15 #[.slice coefso coefs.length coefsc, .int .i64 sh, .slice lsyo lsy.length lsyc] wx (Ret2 A wx)) := fun wx g0 g1 => by rw [hA]; exact qlpc_spec coefs lsy sh coefso lsyo coefsc lsyc hlsyc wx g0 g1
  have KAX : Hid (∀ wx, IntsAt wx coefso coefs → IntsAt wx lsyo lsy → Calls Tryd.prog 16 #[.slice coefso coefs.length coefsc, .int .i64 sh, .slice lsyo lsy.length lsyc] wx (Ret2 A wx)) := fun wx g0 g1 => by rw [hA]; exact xlpc_spec coefs lsy sh coefso lsyo coefsc lsyc wx g0 g1
  clear hA
  obtain ⟨B, hB⟩ : ∃ B, B = unlR coefs sh lsx lsy := ⟨_, rfl⟩
  have KBP : Hid (∀ wx, IntsAt wx coefso coefs → IntsAt wx lsxo lsx → IntsAt wx lsyo lsy → Calls Tryd.prog 17 #[.slice coefso coefs.length coefsc, .int .i64 sh, .slice lsxo lsx.length lsxc, .slice lsyo lsy.length lsyc] wx (Ret2 B wx)) := fun wx g0 g1 g2 => by rw [hB]; exact qunlpc_spec coefs lsx lsy sh coefso lsxo lsyo coefsc lsxc lsyc hlsy9 wx g0 g1 g2
  have KBX : Hid (∀ wx, IntsAt wx coefso coefs → IntsAt wx lsxo lsx → IntsAt wx lsyo lsy → Calls Tryd.prog 18 #[.slice coefso coefs.length coefsc, .int .i64 sh, .slice lsxo lsx.length lsxc, .slice lsyo lsy.length lsyc] wx (Ret2 B wx)) := fun wx g0 g1 g2 => by rw [hB]; exact xunlpc_spec coefs lsx lsy sh coefso lsxo lsyo coefsc lsxc lsyc hlsx0 hlsy9 wx g0 g1 g2
  clear hB
  have HTW : Hid ((w.alloc (.cells #[.slice lsxo lsx.length lsxc, .slice lsyo lsy.length lsyc] 33)).heap[w.heap.size]? = some (.cells #[.slice lsxo lsx.length lsxc, .slice lsyo lsy.length lsyc] 33 (0, 0))) := heap_alloc_new _ _
  have HBL : Hid (Below w.heap.size w (w.alloc (.cells #[.slice lsxo lsx.length lsxc, .slice lsyo lsy.length lsyc] 33))) := (Below.refl _ _).alloc (Nat.le_refl _) _
  go_enter Tryd.func4, Tryd.ntmps4
  go_upto_region 1 with fail
  generalize hwa : w.alloc _ = wa at *
  have t0 : wa.cell? ⟨w.heap.size, 0, none⟩ = some (.slice lsxo lsx.length lsxc) := by rw [cell_row HTW.out]; rfl
  have t1 : wa.cell? ⟨w.heap.size, 1, none⟩ = some (.slice lsyo lsy.length lsyc) := by rw [cell_row HTW.out]; rfl
  clear hwa
  go_quiet (fail)
  have hb : Below w.heap.size w (wa.drewN nq) := Below.drewN HBL.out nq
  generalize wa.drewN nq = wb at *
  clear t0 t1 HTW HBL
  have HBn : Hid (Below w.heap.size w wb) := HB0.out.trans (hb.mono HB0.out.size)
  clear HB0
  have HB0 : Hid (Below w.heap.size w wb) := HBn.out
  clear HBn
  have Icoefsn : Hid (IntsAt wb coefso coefs) := Icoefs.out.below hb
  clear Icoefs
  have Icoefs : Hid (IntsAt wb coefso coefs) := Icoefsn.out
  clear Icoefsn
  have Ixn : Hid (IntsAt wb lsxo lsx) := Ix.out.below hb
  clear Ix
  have Ix : Hid (IntsAt wb lsxo lsx) := Ixn.out
  clear Ixn
  have Iyn : Hid (IntsAt wb lsyo lsy) := Iy.out.below hb
  clear Iy
  have Iy : Hid (IntsAt wb lsyo lsy) := Iyn.out
  clear Iyn
  clear hb
  go_wp2_with fail
  refine (KAP.out wb Icoefs.out Iy.out).mono ?_
  rintro e v1 ⟨pa, pc, rfl, h1, hb⟩
  have HBn : Hid (Below w.heap.size w v1) := HB0.out.trans (hb.mono HB0.out.size)
  clear HB0
  have HB0 : Hid (Below w.heap.size w v1) := HBn.out
  clear HBn
  have Icoefsn : Hid (IntsAt v1 coefso coefs) := Icoefs.out.below hb
  clear Icoefs
  have Icoefs : Hid (IntsAt v1 coefso coefs) := Icoefsn.out
  clear Icoefsn
  have Ixn : Hid (IntsAt v1 lsxo lsx) := Ix.out.below hb
  clear Ix
  have Ix : Hid (IntsAt v1 lsxo lsx) := Ixn.out
  clear Ixn
  have Iyn : Hid (IntsAt v1 lsyo lsy) := Iy.out.below hb
  clear Iy
  have Iy : Hid (IntsAt v1 lsyo lsy) := Iyn.out
  clear Iyn
  clear hb
  have Ip : Hid (IntsAt v1 pa (ansL A)) := h1
  clear h1
  go_wp2_with fail
  refine (KAX.out v1 Icoefs.out Iy.out).mono ?_
  rintro e v2 ⟨qa, qc, rfl, h1, hb⟩
  have HBn : Hid (Below w.heap.size w v2) := HB0.out.trans (hb.mono HB0.out.size)
  clear HB0
  have HB0 : Hid (Below w.heap.size w v2) := HBn.out
  clear HBn
  have Icoefsn : Hid (IntsAt v2 coefso coefs) := Icoefs.out.below hb
  clear Icoefs
  have Icoefs : Hid (IntsAt v2 coefso coefs) := Icoefsn.out
  clear Icoefsn
  have Ixn : Hid (IntsAt v2 lsxo lsx) := Ix.out.below hb
  clear Ix
  have Ix : Hid (IntsAt v2 lsxo lsx) := Ixn.out
  clear Ixn
  have Iyn : Hid (IntsAt v2 lsyo lsy) := Iy.out.below hb
  clear Iy
  have Iy : Hid (IntsAt v2 lsyo lsy) := Iyn.out
  clear Iyn
  have Ipn : Hid (IntsAt v2 pa (ansL A)) := Ip.out.below hb
  clear Ip
  have Ip : Hid (IntsAt v2 pa (ansL A)) := Ipn.out
  clear Ipn
  clear hb
  have Iq : Hid (IntsAt v2 qa (ansL A)) := h1
  clear h1
  go_wp2_with fail
  refine (KBP.out v2 Icoefs.out Ix.out Iy.out).mono ?_
  rintro e v3 ⟨ra, rc, rfl, h1, hb⟩
  have HBn : Hid (Below w.heap.size w v3) := HB0.out.trans (hb.mono HB0.out.size)
  clear HB0
  have HB0 : Hid (Below w.heap.size w v3) := HBn.out
  clear HBn
  have Icoefsn : Hid (IntsAt v3 coefso coefs) := Icoefs.out.below hb
  clear Icoefs
  have Icoefs : Hid (IntsAt v3 coefso coefs) := Icoefsn.out
  clear Icoefsn
  have Ixn : Hid (IntsAt v3 lsxo lsx) := Ix.out.below hb
  clear Ix
  have Ix : Hid (IntsAt v3 lsxo lsx) := Ixn.out
  clear Ixn
  have Iyn : Hid (IntsAt v3 lsyo lsy) := Iy.out.below hb
  clear Iy
  have Iy : Hid (IntsAt v3 lsyo lsy) := Iyn.out
  clear Iyn
  have Ipn : Hid (IntsAt v3 pa (ansL A)) := Ip.out.below hb
  clear Ip
  have Ip : Hid (IntsAt v3 pa (ansL A)) := Ipn.out
  clear Ipn
  have Iqn : Hid (IntsAt v3 qa (ansL A)) := Iq.out.below hb
  clear Iq
  have Iq : Hid (IntsAt v3 qa (ansL A)) := Iqn.out
  clear Iqn
  clear hb
  have Ir : Hid (IntsAt v3 ra (ansL B)) := h1
  clear h1
  go_wp2_with fail
  refine (KBX.out v3 Icoefs.out Ix.out Iy.out).mono ?_
  rintro e v4 ⟨sa, sc, rfl, h1, hb⟩
  have HBn : Hid (Below w.heap.size w v4) := HB0.out.trans (hb.mono HB0.out.size)
  clear HB0
  have HB0 : Hid (Below w.heap.size w v4) := HBn.out
  clear HBn
  have Icoefsn : Hid (IntsAt v4 coefso coefs) := Icoefs.out.below hb
  clear Icoefs
  have Icoefs : Hid (IntsAt v4 coefso coefs) := Icoefsn.out
  clear Icoefsn
  have Ixn : Hid (IntsAt v4 lsxo lsx) := Ix.out.below hb
  clear Ix
  have Ix : Hid (IntsAt v4 lsxo lsx) := Ixn.out
  clear Ixn
  have Iyn : Hid (IntsAt v4 lsyo lsy) := Iy.out.below hb
  clear Iy
  have Iy : Hid (IntsAt v4 lsyo lsy) := Iyn.out
  clear Iyn
  have Ipn : Hid (IntsAt v4 pa (ansL A)) := Ip.out.below hb
  clear Ip
  have Ip : Hid (IntsAt v4 pa (ansL A)) := Ipn.out
  clear Ipn
  have Iqn : Hid (IntsAt v4 qa (ansL A)) := Iq.out.below hb
  clear Iq
  have Iq : Hid (IntsAt v4 qa (ansL A)) := Iqn.out
  clear Iqn
  have Irn : Hid (IntsAt v4 ra (ansL B)) := Ir.out.below hb
  clear Ir
  have Ir : Hid (IntsAt v4 ra (ansL B)) := Irn.out
  clear Irn
  clear hb
  have Is : Hid (IntsAt v4 sa (ansL B)) := h1
  clear h1
  go_wp2_with fail
  refine (same_same (ansL A) _ _ pc qc v4 Ip.out Iq.out).mono ?_
  rintro e v5 ⟨rfl, nn, hq⟩
  have hb : Below v4.heap.size v4 v5 := by rw [hq]; exact below_drewN _ _
  clear hq
  have HBn : Hid (Below w.heap.size w v5) := HB0.out.trans (hb.mono HB0.out.size)
  clear HB0
  have HB0 : Hid (Below w.heap.size w v5) := HBn.out
  clear HBn
  have Icoefsn : Hid (IntsAt v5 coefso coefs) := Icoefs.out.below hb
  clear Icoefs
  have Icoefs : Hid (IntsAt v5 coefso coefs) := Icoefsn.out
  clear Icoefsn
  have Ixn : Hid (IntsAt v5 lsxo lsx) := Ix.out.below hb
  clear Ix
  have Ix : Hid (IntsAt v5 lsxo lsx) := Ixn.out
  clear Ixn
  have Iyn : Hid (IntsAt v5 lsyo lsy) := Iy.out.below hb
  clear Iy
  have Iy : Hid (IntsAt v5 lsyo lsy) := Iyn.out
  clear Iyn
  have Ipn : Hid (IntsAt v5 pa (ansL A)) := Ip.out.below hb
  clear Ip
  have Ip : Hid (IntsAt v5 pa (ansL A)) := Ipn.out
  clear Ipn
  have Iqn : Hid (IntsAt v5 qa (ansL A)) := Iq.out.below hb
  clear Iq
  have Iq : Hid (IntsAt v5 qa (ansL A)) := Iqn.out
  clear Iqn
  have Irn : Hid (IntsAt v5 ra (ansL B)) := Ir.out.below hb
  clear Ir
  have Ir : Hid (IntsAt v5 ra (ansL B)) := Irn.out
  clear Irn
  have Isn : Hid (IntsAt v5 sa (ansL B)) := Is.out.below hb
  clear Is
  have Is : Hid (IntsAt v5 sa (ansL B)) := Isn.out
  clear Isn
  clear hb
  go_wp2_with fail
  refine (same_same (ansL B) _ _ rc sc v5 Ir.out Is.out).mono ?_
  rintro e v6 ⟨rfl, nn, hq⟩
  have hb : Below v5.heap.size v5 v6 := by rw [hq]; exact below_drewN _ _
  clear hq
  have HBn : Hid (Below w.heap.size w v6) := HB0.out.trans (hb.mono HB0.out.size)
  clear HB0
  have HB0 : Hid (Below w.heap.size w v6) := HBn.out
  clear HBn
  have Icoefsn : Hid (IntsAt v6 coefso coefs) := Icoefs.out.below hb
  clear Icoefs
  have Icoefs : Hid (IntsAt v6 coefso coefs) := Icoefsn.out
  clear Icoefsn
  have Ixn : Hid (IntsAt v6 lsxo lsx) := Ix.out.below hb
  clear Ix
  have Ix : Hid (IntsAt v6 lsxo lsx) := Ixn.out
  clear Ixn
  have Iyn : Hid (IntsAt v6 lsyo lsy) := Iy.out.below hb
  clear Iy
  have Iy : Hid (IntsAt v6 lsyo lsy) := Iyn.out
  clear Iyn
  have Ipn : Hid (IntsAt v6 pa (ansL A)) := Ip.out.below hb
  clear Ip
  have Ip : Hid (IntsAt v6 pa (ansL A)) := Ipn.out
  clear Ipn
  have Iqn : Hid (IntsAt v6 qa (ansL A)) := Iq.out.below hb
  clear Iq
  have Iq : Hid (IntsAt v6 qa (ansL A)) := Iqn.out
  clear Iqn
  have Irn : Hid (IntsAt v6 ra (ansL B)) := Ir.out.below hb
  clear Ir
  have Ir : Hid (IntsAt v6 ra (ansL B)) := Irn.out
  clear Irn
  have Isn : Hid (IntsAt v6 sa (ansL B)) := Is.out.below hb
  clear Is
  have Is : Hid (IntsAt v6 sa (ansL B)) := Isn.out
  clear Isn
  clear hb
  go_wp2_with fail
  refine (KAw.out v6 HB0.out).mono ?_
  rintro e vz ⟨rfl, hb⟩
  have HBn : Hid (Below w.heap.size w vz) := HB0.out.trans (hb.mono HB0.out.size)
  clear HB0
  have HB0 : Hid (Below w.heap.size w vz) := HBn.out
  clear HBn
  have Icoefsn : Hid (IntsAt vz coefso coefs) := Icoefs.out.below hb
  clear Icoefs
  have Icoefs : Hid (IntsAt vz coefso coefs) := Icoefsn.out
  clear Icoefsn
  have Ixn : Hid (IntsAt vz lsxo lsx) := Ix.out.below hb
  clear Ix
  have Ix : Hid (IntsAt vz lsxo lsx) := Ixn.out
  clear Ixn
  have Iyn : Hid (IntsAt vz lsyo lsy) := Iy.out.below hb
  clear Iy
  have Iy : Hid (IntsAt vz lsyo lsy) := Iyn.out
  clear Iyn
  have Ipn : Hid (IntsAt vz pa (ansL A)) := Ip.out.below hb
  clear Ip
  have Ip : Hid (IntsAt vz pa (ansL A)) := Ipn.out
  clear Ipn
  have Iqn : Hid (IntsAt vz qa (ansL A)) := Iq.out.below hb
  clear Iq
  have Iq : Hid (IntsAt vz qa (ansL A)) := Iqn.out
  clear Iqn
  have Irn : Hid (IntsAt vz ra (ansL B)) := Ir.out.below hb
  clear Ir
  have Ir : Hid (IntsAt vz ra (ansL B)) := Irn.out
  clear Irn
  have Isn : Hid (IntsAt vz sa (ansL B)) := Is.out.below hb
  clear Is
  have Is : Hid (IntsAt vz sa (ansL B)) := Isn.out
  clear Isn
  clear hb
  go_wp2_with fail
  go_ret
  exact ⟨rfl, HB0.out⟩


theorem door_met (os : Os) (args : Array Value) : laidMetH Tryd.prog Rows.predictLpcRow.laid ((World.doorLaid Tryd.prog 400 os).forCall (fun _ _ => 0) ⟨#[], args, []⟩).memory :=
  laidMetH_of_parts3 (fuel := 8) (laidMet_of_run' 8 (by kernel_rfl) (by kernel_rfl)) (by kernel_rfl) (by kernel_rfl)

set_option maxRecDepth 100000 in
theorem lifted (os : Os) (started : os.Started) (H : Type) (enc : TypeId × Value → H) :
    ReturnsInHanded {} Tryd.checked os 4 .any (fun w args => (Rows.predictLpcSpec.pre enc Tryd.prog Tryd.f4 [] false w args ∧ laidMetH Tryd.prog Rows.predictLpcRow.laid w) ∧ sizedMet enc Tryd.prog Tryd.f4 (OpenSpec.ofChange Rows.predictLpcSpec) false w args)
      (Rows.predictLpcSpec.post enc Tryd.prog Tryd.f4 false true false false) := by
  refine returnsInHanded_of_change_and (C := Tryd.checked) (X := fun w _ => laidMetH Tryd.prog Rows.predictLpcRow.laid w) (fun _ _ _ hh h => h.of_heap hh) own started (by kernel_rfl) Tryd.func4
    (ChangeSpec.witness_shaped (enc := enc) (C := Tryd.checked) (os := os) (X := fun w _ => laidMetH Tryd.prog Rows.predictLpcRow.laid w) false (World.doorLaid Tryd.prog 400 os) #[.slice none 0 0, .int .i64 0, .agg #[.slice none 0 0, .slice none 0 0]] 8 rfl (World.shaped_of_RefB (by kernel_rfl) (by kernel_rfl)) (by kernel_rfl) (by kernel_rfl) (by kernel_rfl) (door_met os _)) ?_
  intro W base args ds gs before hval0 hW _ hsz0 hL _
  have hval : ∀ (j : Nat) t v, Tryd.f4.params[j]? = some t → args[j]? = some v → Value.okWide Tryd.prog W .any base t v := hval0
  have hsz : (DataW.weightsEach Tryd.prog (Tryd.f4.params.toList ++ Rows.predictLpcSpec.plain.varTypes Tryd.prog) (ds ++ gs)).all (· ≤ reachBytes) = true := hsz0
  have hW' := hW
  obtain ⟨p, q, hA0, hV, rfl, hfz, hnd⟩ := hW
  have hA : DataW.TrodAll enc Tryd.prog W 0 (fun _ => true) true Tryd.f4.params.toList args.toList ds p := hA0
  rw [Tryd.params4] at hA hval hsz
  obtain ⟨v0, vs0, d0, ds0, p0, q0, hargs, rfl, rfl, h0, r0⟩ := trodAll_cons hA
  obtain ⟨v1, vs1, d1, ds1, p1, q1, rfl, rfl, rfl, h1, r1⟩ := trodAll_cons r0
  obtain ⟨v2, vs2, d2, ds2, p2, q2, rfl, rfl, rfl, h2, r2⟩ := trodAll_cons r1
  obtain ⟨rfl, rfl, rfl⟩ := trodAll_nil r2
  obtain rfl : args = #[v0, v1, v2] := by cases args; simp_all
  obtain ⟨rfl, rfl⟩ := trodVars_none hV
  have hall := List.all_eq_true.1 hsz
  have hw0 : ∀ n ∈ d0.weights Tryd.prog 22, n ≤ reachBytes := fun n hn => by
    have := hall n (List.mem_append.2 (.inl hn))
    exact of_decide_eq_true this
  have k0 := h0
  have lt0 : ∀ x ∈ p0, x.block < W.heap.size := by obtain ⟨m, hm⟩ := k0; exact DataW.trod_lt m _ _ _ hm
  obtain ⟨o0, c0, x0, rfl, hr0, hc0, hn0, hm0⟩ := open_list (hval 0 22 v0 rfl rfl) h0 hw0
  obtain ⟨x1, rfl, rfl, rfl, i1⟩ := open_int Tryd.underlying3 (hval 1 3 v1 rfl rfl) h1
  have ib1 := bounds_i64 i1
  have hw2 : ∀ n ∈ d2.weights Tryd.prog 33, n ≤ reachBytes := fun n hn => by
    have := hall n (List.mem_append.2 (.inr (List.mem_append.2 (.inr (List.mem_append.2 (.inl hn))))))
    exact of_decide_eq_true this
  have k2 := h2
  have lt2 : ∀ x ∈ p2, x.block < W.heap.size := by obtain ⟨m, hm⟩ := k2; exact DataW.trod_lt m _ _ _ hm
  obtain ⟨xo2, xc2, x2, yo2, yc2, y2, rfl, hx2, hy2, hxn2, hyn2, hym2, hyk2⟩ := open_twoI (hval 2 33 v2 rfl rfl) h2 hw2
  have hT : Tz W := tz_of_laid hL
  clear hA0 hval0
  refine (walk x0 o0 c0 hc0 hn0 hm0 x1 ib1.1 ib1.2 xo2 xc2 x2 yo2 yc2 y2 hxn2 hyn2 hym2 hyk2 W hr0 hx2 hy2 hT).mono fun e W' ⟨he, bel⟩ => ?_
  subst he
  exact ⟨_, rfl, _, _, _, [], _, [], hW', trodAll_mk1 (shut_bool Tryd.underlying4 _), (trodAll_cons_mk (Below.trod laidOut (by kernel_rfl) (of_decide_eq_true (by kernel_rfl)) k0 bel lt0) (trodAll_cons_mk (shut_int Tryd.underlying3 i1) (trodAll_cons_mk (Below.trod laidOut (by kernel_rfl) (of_decide_eq_true (by kernel_rfl)) k2 bel lt2) trodAll_mk0))), rfl, bel.frame _, fun h => by cases h⟩

theorem said : Rows.PredictLpcSaid :=
  OpenClaim.holds_of_wide 4 Tryd.f4 rfl rfl rfl rfl rfl rfl rfl ⟨rfl, rfl, rfl, rfl, rfl⟩ rfl rfl rfl rfl rfl (by kernel_rfl) Tryd.func4 (by kernel_rfl)
    (of_decide_eq_true (by kernel_rfl)) (by unfold Func.isWrapper; first | (rw [if_pos (by decide +kernel)]; kernel_rfl) | (rw [if_neg (by decide +kernel)]; exact ⟨rfl, rfl⟩))
    (fun os started H enc _ => lifted os started H enc)

/-- No parameter wants a stand-in; the program's own looks are off. -/
theorem plain (f : FuncId) (fn : Func) (hf : Tryd.pinned.checked.prog.funcNamed Rows.predictLpcRow.func = some f) (hfn : Tryd.pinned.checked.prog.funcs[f]? = some fn) :
    false = Tryd.pinned.checked.prog.looks [] ∧ ∀ (j : Nat) t, fn.params[j]? = some t → Tryd.pinned.checked.prog.wantsStandIn t = false := by
  obtain rfl : f = 4 := Option.some.inj ((show Tryd.prog.funcNamed Rows.predictLpcRow.func = some 4 by kernel_rfl).symm.trans hf) |>.symm
  obtain rfl : fn = Tryd.f4 := (Option.some.inj (Tryd.func4.symm.trans hfn)).symm
  refine ⟨by kernel_rfl, fun j t ht => ?_⟩
  rw [Tryd.params4] at ht
  have hm := Array.mem_of_getElem? ht
  simp at hm
  rcases hm with rfl | rfl | rfl
  · exact (show Tryd.prog.wantsStandIn 22 = false by kernel_rfl)
  · exact (show Tryd.prog.wantsStandIn 3 = false by kernel_rfl)
  · exact (show Tryd.prog.wantsStandIn 33 = false by kernel_rfl)

theorem card : Rows.PredictLpcCardSaid :=
  Claim7.holds_tied_plain_at .later [] _ _ _ _ said (fun _ h => by cases h) (by kernel_rfl) (fun _ h => by cases h) predictLpc_row_tie rfl ⟨rfl, rfl⟩ (by kernel_rfl) rfl plain (by kernel_rfl)

end Go.Proofs.YtpfkaddammfkkaaDoor.predictLpc
namespace Go.Proofs.YtpfkaddammfkkaaDoor
theorem predictLpc_card : Rows.PredictLpcCardSaid := predictLpc.card
#print axioms predictLpc_card
end Go.Proofs.YtpfkaddammfkkaaDoor
