/-
  Own text: for every text the program's four sums are the document's, and the chapter's examples hold. Laid: the package's constant table of rules starts as the program's text lays it (the card ties it).
-/
import Derived.Test.YtdmgkgomldjnhaaDoorLaid
import Derived.WalkKit
import Derived.ProofKit
import Derived.OpenShut
import Derived.ShutString
import Derived.ChangeOld
import Derived.Below
import Derived.SizedLaws
namespace Go.Proofs.YtdmgkgomldjnhaaDoor.sumsAll
open Go.ChangeShapes Go.WideShapes Go.ChangeAt Go.RowKit
open Go.ChangeMaps (open_string shut_string)
set_option linter.unusedSimpArgs false
set_option linter.unusedVariables false

set_option maxRecDepth 20000 in
set_option maxHeartbeats 3200000 in
theorem walk (s : ByteArray) (hs : s.size ≤ 140737488351232) (w : World) (hR : RulesAt w) :
    Calls Tryd.prog 3 #[.string s] w fun e w' => e = .returned (.bool true) ∧ Below w.heap.size w w' := by
  have hs' : s.size ≤ 200000000000000 := by omega
  have k1 := fun w hR => crc8_spec s hs' w hR
  have k2 := fun w => refCrc8_spec s hs' w
  have k3 := fun w hR => crc16_spec s hs' w hR
  have k4 := fun w => refCrc16_spec s hs' w
  have k5 := fun w hR => ogg_spec s hs' w hR
  have k6 := fun w => refOgg_spec s hs' w
  have k7 := fun w hR => crc32_spec s hs' w hR
  have k8 := fun w => refCrc32_spec s hs' w
  have k9 := fun w hR => awake_spec w hR
  generalize c8 s = n8 at k1 k2
  generalize c16 s = n16 at k3 k4
  generalize c32 s = n32 at k5 k6
  generalize c33 s = n33 at k7 k8
  have H0 : Hid (RulesAt w) := hR
  have B0 : Hid (Below w.heap.size w w) := Below.refl _ _
  clear hR
  go_enter Tryd.func3, Tryd.ntmps3
  go_wp2_with fail
  refine (k1 w H0.out).mono ?_
  rintro e w1 ⟨rfl, hB⟩
  have H1 : Hid (RulesAt w1) := H0.out.below hB
  have B1 : Hid (Below w.heap.size w w1) := H0.out.two B0.out hB
  clear hB
  go_wp2_with fail
  refine (k2 w1).mono ?_
  rintro e w' ⟨rfl, hw'⟩
  rw [hw']
  clear hw'
  go_wp2_with fail
  refine (k3 w1 H1.out).mono ?_
  rintro e w2 ⟨rfl, hB⟩
  have H2 : Hid (RulesAt w2) := H1.out.below hB
  have B2 : Hid (Below w.heap.size w w2) := H0.out.two B1.out hB
  clear hB
  go_wp2_with fail
  refine (k4 w2).mono ?_
  rintro e w' ⟨rfl, hw'⟩
  rw [hw']
  clear hw'
  go_wp2_with fail
  refine (k5 w2 H2.out).mono ?_
  rintro e w3 ⟨rfl, hB⟩
  have H3 : Hid (RulesAt w3) := H2.out.below hB
  have B3 : Hid (Below w.heap.size w w3) := H0.out.two B2.out hB
  clear hB
  go_wp2_with fail
  refine (k6 w3).mono ?_
  rintro e w' ⟨rfl, hw'⟩
  rw [hw']
  clear hw'
  go_wp2_with fail
  refine (k7 w3 H3.out).mono ?_
  rintro e w4 ⟨rfl, hB⟩
  have H4 : Hid (RulesAt w4) := H3.out.below hB
  have B4 : Hid (Below w.heap.size w w4) := H0.out.two B3.out hB
  clear hB
  go_wp2_with fail
  refine (k8 w4).mono ?_
  rintro e w' ⟨rfl, hw'⟩
  rw [hw']
  clear hw'
  go_wp2_with fail
  refine (k9 _ H4.out).mono ?_
  rintro e w5 ⟨rfl, hB⟩
  have B5 : Hid (Below w.heap.size w w5) := H0.out.two B4.out hB
  clear hB
  go_wp2
  go_ret
  exact ⟨rfl, B5.out⟩

theorem door_met (os : Os) (args : Array Value) : laidMetH Tryd.prog Rows.sumsAllRow.laid ((World.doorLaid Tryd.prog 400 os).forCall (fun _ _ => 0) ⟨#[], args, []⟩).memory :=
  laidMetH_of_parts3 (fuel := 8) (laidMet_of_run' 8 (by kernel_rfl) (by kernel_rfl)) (by kernel_rfl) (by kernel_rfl)

set_option maxRecDepth 100000 in
theorem lifted (os : Os) (started : os.Started) (H : Type) (enc : TypeId × Value → H) :
    ReturnsInHanded {} Tryd.checked os 3 .any (fun w args => (Rows.sumsAllSpec.pre enc Tryd.prog Tryd.f3 [] false w args ∧ laidMetH Tryd.prog Rows.sumsAllRow.laid w) ∧ sizedMet enc Tryd.prog Tryd.f3 (OpenSpec.ofChange Rows.sumsAllSpec) false w args)
      (Rows.sumsAllSpec.post enc Tryd.prog Tryd.f3 false true false false) := by
  refine returnsInHanded_of_change_and (C := Tryd.checked) (X := fun w _ => laidMetH Tryd.prog Rows.sumsAllRow.laid w) (fun _ _ _ hh h => h.of_heap hh) own started (by kernel_rfl) Tryd.func3
    (ChangeSpec.witness_shaped (enc := enc) (C := Tryd.checked) (os := os) (X := fun w _ => laidMetH Tryd.prog Rows.sumsAllRow.laid w) false (World.doorLaid Tryd.prog 400 os) #[.string ByteArray.empty] 8 rfl (World.shaped_of_RefB (by kernel_rfl) (by kernel_rfl)) (by kernel_rfl) (by kernel_rfl) (by kernel_rfl) (door_met os _)) ?_
  intro W base args ds gs before hval0 hW _ hsz0 hL _
  have hval : ∀ (j : Nat) t v, Tryd.f3.params[j]? = some t → args[j]? = some v → Value.okWide Tryd.prog W .any base t v := hval0
  have hsz : (DataW.weightsEach Tryd.prog (Tryd.f3.params.toList ++ Rows.sumsAllSpec.plain.varTypes Tryd.prog) (ds ++ gs)).all (· ≤ reachBytes) = true := hsz0
  have hW' := hW
  obtain ⟨p, q, hA0, hV, rfl, hfz, hnd⟩ := hW
  have hA : DataW.TrodAll enc Tryd.prog W 0 (fun _ => true) true Tryd.f3.params.toList args.toList ds p := hA0
  rw [Tryd.params3] at hA hval hsz
  obtain ⟨v0, vs0, d0, ds0, p0, q0, hargs, rfl, rfl, h0, r0⟩ := trodAll_cons hA
  obtain ⟨rfl, rfl, rfl⟩ := trodAll_nil r0
  obtain rfl : args = #[v0] := by cases args; simp_all
  obtain ⟨rfl, rfl⟩ := trodVars_none hV
  obtain ⟨s0, rfl, rfl, rfl, hs0⟩ := open_string Tryd.underlying9 (hval 0 9 v0 rfl rfl) h0
  have hq0 := sized_string hsz (j := 0) (t := 9) rfl rfl
  have hz0 : s0.size ≤ 140737488351232 := by
    have e : s0.data.toList.length = s0.size := by rw [Array.length_toList]; rfl
    rw [e] at hq0
    simp only [reachBytes] at hq0
    omega
  clear hA0 hval0
  refine (walk s0 hz0 W (rules_of_laid hL)).mono fun e W' ⟨he, bel⟩ => ?_
  subst he
  exact ⟨_, rfl, _, _, _, [], _, [], hW', trodAll_mk1 (shut_bool Tryd.underlying4 _), (trodAll_cons_mk (shut_string Tryd.underlying9 hs0) trodAll_mk0), rfl, bel.frame _, fun h => by cases h⟩

theorem said : Rows.SumsAllSaid :=
  OpenClaim.holds_of_wide 3 Tryd.f3 rfl rfl rfl rfl rfl rfl rfl ⟨rfl, rfl, rfl, rfl, rfl⟩ rfl rfl rfl rfl rfl (by kernel_rfl) Tryd.func3 (by kernel_rfl)
    (of_decide_eq_true (by kernel_rfl)) (by unfold Func.isWrapper; first | (rw [if_pos (by decide +kernel)]; kernel_rfl) | (rw [if_neg (by decide +kernel)]; exact ⟨rfl, rfl⟩))
    (fun os started H enc _ => lifted os started H enc)

/-- No parameter wants a stand-in; the program's own looks are off. -/
theorem plain (f : FuncId) (fn : Func) (hf : Tryd.pinned.checked.prog.funcNamed Rows.sumsAllRow.func = some f) (hfn : Tryd.pinned.checked.prog.funcs[f]? = some fn) :
    false = Tryd.pinned.checked.prog.looks [] ∧ ∀ (j : Nat) t, fn.params[j]? = some t → Tryd.pinned.checked.prog.wantsStandIn t = false := by
  obtain rfl : f = 3 := Option.some.inj ((show Tryd.prog.funcNamed Rows.sumsAllRow.func = some 3 by kernel_rfl).symm.trans hf) |>.symm
  obtain rfl : fn = Tryd.f3 := (Option.some.inj (Tryd.func3.symm.trans hfn)).symm
  refine ⟨by kernel_rfl, fun j t ht => ?_⟩
  rw [Tryd.params3] at ht
  have hm : t = 9 := by
    have := Array.mem_of_getElem? ht
    simp at this
    omega
  rcases hm with rfl
  · exact (show Tryd.prog.wantsStandIn 9 = false by kernel_rfl)

theorem card : Rows.SumsAllCardSaid :=
  Claim7.holds_tied_plain_at .later [] _ _ _ _ said (fun _ h => by cases h) (by kernel_rfl) (fun _ h => by cases h) sumsAll_row_tie rfl ⟨rfl, rfl⟩ (by kernel_rfl) rfl plain (by kernel_rfl)

end Go.Proofs.YtdmgkgomldjnhaaDoor.sumsAll
namespace Go.Proofs.YtdmgkgomldjnhaaDoor
theorem sumsAll_card : Rows.SumsAllCardSaid := sumsAll.card
#print axioms sumsAll_card
end Go.Proofs.YtdmgkgomldjnhaaDoor
