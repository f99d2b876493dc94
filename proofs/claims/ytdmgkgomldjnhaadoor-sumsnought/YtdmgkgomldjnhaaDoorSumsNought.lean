/-
  Own text: for every text, the text with its sum behind it, the highest byte first, has the sum 0 (Crc8, Crc16, Ogg), and the chapter's examples hold. Laid: the package's constant table of rules starts as the program's text lays it (the card ties it).
-/
import Derived.Test.YtdmgkgomldjnhaaDoorRowtext
import Derived.WalkKit
import Derived.ProofKit
import Derived.OpenShut
import Derived.ShutString
import Derived.ChangeOld
import Derived.Below
import Derived.SizedLaws
namespace Go.Proofs.YtdmgkgomldjnhaaDoor.sumsNought
open Go.ChangeShapes Go.WideShapes Go.ChangeAt Go.RowKit
open Go.ChangeMaps (open_string shut_string)
set_option linter.unusedSimpArgs false
set_option linter.unusedVariables false

set_option maxRecDepth 20000 in
set_option maxHeartbeats 3200000 in
theorem walk (s : ByteArray) (hs : s.size ≤ 140737488351232) (w : World) (hR : RulesAt w) :
    Calls Tryd.prog 6 #[.string s] w fun e w' => e = .returned (.bool true) ∧ Below w.heap.size w w' := by
  have hs' : s.size ≤ 200000000000000 := by omega
  have k1 := fun w hR => crc8_spec s hs' w hR
  have k2 := fun w hR => crc16_spec s hs' w hR
  have k3 := fun w hR => ogg_spec s hs' w hR
  have t8 : (s ++ textOf [c8 s]).size ≤ 200000000000000 := by rw [ByteArray.size_append, textOf_size]; simp; omega
  have t16 : (s ++ textOf [c16 s / 256, c16 s % 256]).size ≤ 200000000000000 := by rw [ByteArray.size_append, textOf_size]; simp; omega
  have t32 : (s ++ textOf [c32 s / 16777216, c32 s / 65536 % 256, c32 s / 256 % 256, c32 s % 256]).size ≤ 200000000000000 := by rw [ByteArray.size_append, textOf_size]; simp; omega
  have k4 := fun w hR => crc8_spec (s ++ textOf [c8 s]) t8 w hR
  have k5 := fun w hR => crc16_spec (s ++ textOf [c16 s / 256, c16 s % 256]) t16 w hR
  have k6 := fun w hR => ogg_spec (s ++ textOf [c32 s / 16777216, c32 s / 65536 % 256, c32 s / 256 % 256, c32 s % 256]) t32 w hR
  rw [nought_8] at k4
  rw [nought_16] at k5
  rw [nought_32] at k6
  clear t8 t16 t32
  have l8 := c8_lt s
  have l16 := c16_lt s
  have l32 := c32_lt s
  generalize c8 s = n8 at *
  generalize c16 s = n16 at *
  generalize c32 s = n32 at *
  have e1 : (n16 : Int) / 256 = ((n16 / 256 : Nat) : Int) := by omega
  have e2 : (n16 : Int) % 256 = ((n16 % 256 : Nat) : Int) := by omega
  have e3 : (n32 : Int) / 16777216 = ((n32 / 16777216 : Nat) : Int) := by omega
  have e4 : (n32 : Int) / 65536 % 256 = ((n32 / 65536 % 256 : Nat) : Int) := by omega
  have e5 : (n32 : Int) / 256 % 256 = ((n32 / 256 % 256 : Nat) : Int) := by omega
  have e6 : (n32 : Int) % 256 = ((n32 % 256 : Nat) : Int) := by omega
  have m1 : n16 / 256 < 256 := by omega
  have m2 : n32 / 16777216 < 256 := by omega
  generalize n16 / 256 = a1 at *
  generalize n16 % 256 = a2 at *
  generalize n32 / 16777216 = b1 at *
  generalize n32 / 65536 % 256 = b2 at *
  generalize n32 / 256 % 256 = b3 at *
  generalize n32 % 256 = b4 at *
  have v1 := conv1 n8
  have v2 := conv2' a1 a2
  have v4 := conv4' b1 b2 b3 b4
  have z1 : (textOf [n8]).size = 1 := textOf_size _
  have z2 : (textOf [a1, a2]).size = 2 := textOf_size _
  have z4 : (textOf [b1, b2, b3, b4]).size = 4 := textOf_size _
  have H0 : Hid (RulesAt w) := hR
  have B0 : Hid (Below w.heap.size w w) := Below.refl _ _
  clear hR
  go_enter Tryd.func6, Tryd.ntmps6
  go_wp2_with fail
  refine (k1 w H0.out).mono ?_
  rintro e w1 ⟨rfl, hB⟩
  have H1 : Hid (RulesAt w1) := H0.out.below hB
  have B1 : Hid (Below w.heap.size w w1) := H0.out.two B0.out hB
  clear hB
  go_wp2_with fail
  refine (k2 w1 H1.out).mono ?_
  rintro e w2 ⟨rfl, hB⟩
  have H2 : Hid (RulesAt w2) := H1.out.below hB
  have B2 : Hid (Below w.heap.size w w2) := H0.out.two B1.out hB
  clear hB
  go_wp2_with fail
  refine (k3 w2 H2.out).mono ?_
  rintro e w3 ⟨rfl, hB⟩
  have H3 : Hid (RulesAt w3) := H2.out.below hB
  have B3 : Hid (Below w.heap.size w w3) := H0.out.two B2.out hB
  clear hB
  go_wp2_with fail
  generalize hw4 : ((w3.alloc (.cells #[.int .u8 (n8 : Int)] 5)).alloc (.cells #[.int .u8 (a1 : Int), .int .u8 (a2 : Int)] 5)).alloc (.cells #[.int .u8 (b1 : Int), .int .u8 (b2 : Int), .int .u8 (b3 : Int), .int .u8 (b4 : Int)] 5) = w4
  have hB4 : Below w3.heap.size w3 w4 := by
    rw [← hw4]
    exact (((Below.refl _ _).alloc (Nat.le_refl _) _).alloc (by simp) _).alloc (by simp; omega) _
  have H4 : Hid (RulesAt w4) := H3.out.below hB4
  have B4 : Hid (Below w.heap.size w w4) := H0.out.two B3.out hB4
  clear hB4 hw4
  refine (k4 w4 H4.out).mono ?_
  rintro e w5 ⟨rfl, hB⟩
  have H5 : Hid (RulesAt w5) := H4.out.below hB
  have B5 : Hid (Below w.heap.size w w5) := H0.out.two B4.out hB
  clear hB
  go_wp2_with fail
  refine (k5 w5 H5.out).mono ?_
  rintro e w6 ⟨rfl, hB⟩
  have H6 : Hid (RulesAt w6) := H5.out.below hB
  have B6 : Hid (Below w.heap.size w w6) := H0.out.two B5.out hB
  clear hB
  go_wp2_with fail
  refine (k6 w6 H6.out).mono ?_
  rintro e w7 ⟨rfl, hB⟩
  have H7 : Hid (RulesAt w7) := H6.out.below hB
  have B7 : Hid (Below w.heap.size w w7) := H0.out.two B6.out hB
  clear hB
  go_wp2_with fail
  refine (awake_spec w7 H7.out).mono ?_
  rintro e w8 ⟨rfl, hB⟩
  have H8 : Hid (RulesAt w8) := H7.out.below hB
  have B8 : Hid (Below w.heap.size w w8) := H0.out.two B7.out hB
  clear hB
  go_wp2
  go_ret
  exact ⟨rfl, B8.out⟩

theorem door_met (os : Os) (args : Array Value) : laidMetH Tryd.prog Rows.sumsNoughtRow.laid ((World.doorLaid Tryd.prog 400 os).forCall (fun _ _ => 0) ⟨#[], args, []⟩).memory :=
  laidMetH_of_parts3 (fuel := 8) (laidMet_of_run' 8 (by kernel_rfl) (by kernel_rfl)) (by kernel_rfl) (by kernel_rfl)

set_option maxRecDepth 100000 in
theorem lifted (os : Os) (started : os.Started) (H : Type) (enc : TypeId × Value → H) :
    ReturnsInHanded {} Tryd.checked os 6 .any (fun w args => (Rows.sumsNoughtSpec.pre enc Tryd.prog Tryd.f6 [] false w args ∧ laidMetH Tryd.prog Rows.sumsNoughtRow.laid w) ∧ sizedMet enc Tryd.prog Tryd.f6 (OpenSpec.ofChange Rows.sumsNoughtSpec) false w args)
      (Rows.sumsNoughtSpec.post enc Tryd.prog Tryd.f6 false true false false) := by
  refine returnsInHanded_of_change_and (C := Tryd.checked) (X := fun w _ => laidMetH Tryd.prog Rows.sumsNoughtRow.laid w) (fun _ _ _ hh h => h.of_heap hh) own started (by kernel_rfl) Tryd.func6
    (ChangeSpec.witness_shaped (enc := enc) (C := Tryd.checked) (os := os) (X := fun w _ => laidMetH Tryd.prog Rows.sumsNoughtRow.laid w) false (World.doorLaid Tryd.prog 400 os) #[.string ByteArray.empty] 8 rfl (World.shaped_of_RefB (by kernel_rfl) (by kernel_rfl)) (by kernel_rfl) (by kernel_rfl) (by kernel_rfl) (door_met os _)) ?_
  intro W base args ds gs before hval0 hW _ hsz0 hL _
  have hval : ∀ (j : Nat) t v, Tryd.f6.params[j]? = some t → args[j]? = some v → Value.okWide Tryd.prog W .any base t v := hval0
  have hsz : (DataW.weightsEach Tryd.prog (Tryd.f6.params.toList ++ Rows.sumsNoughtSpec.plain.varTypes Tryd.prog) (ds ++ gs)).all (· ≤ reachBytes) = true := hsz0
  have hW' := hW
  obtain ⟨p, q, hA0, hV, rfl, hfz, hnd⟩ := hW
  have hA : DataW.TrodAll enc Tryd.prog W 0 (fun _ => true) true Tryd.f6.params.toList args.toList ds p := hA0
  rw [Tryd.params6] at hA hval hsz
  obtain ⟨v0, vs0, d0, ds0, p0, q0, hargs, rfl, rfl, h0, r0⟩ := trodAll_cons hA
  obtain ⟨rfl, rfl, rfl⟩ := trodAll_nil r0
  obtain rfl : args = #[v0] := by cases args; simp_all
  obtain ⟨rfl, rfl⟩ := trodVars_none hV
  obtain ⟨s0, rfl, rfl, rfl, hs0⟩ := open_string Tryd.underlying9 (hval 0 9 v0 rfl rfl) h0
  have hq0 := sized_string hsz (j := 0) (t := 9) rfl rfl
  have hz0 : s0.size ≤ 140737488351232 := by
    have e : s0.data.toList.length = s0.size := by rw [Array.length_toList]; rfl
    rw [e] at hq0
    simp only [reachBytes] at hq0
    omega
  clear hA0 hval0
  refine (walk s0 hz0 W (rules_of_laid hL)).mono fun e W' ⟨he, bel⟩ => ?_
  subst he
  exact ⟨_, rfl, _, _, _, [], _, [], hW', trodAll_mk1 (shut_bool Tryd.underlying4 _), (trodAll_cons_mk (shut_string Tryd.underlying9 hs0) trodAll_mk0), rfl, bel.frame _, fun h => by cases h⟩

theorem said : Rows.SumsNoughtSaid :=
  OpenClaim.holds_of_wide 6 Tryd.f6 rfl rfl rfl rfl rfl rfl rfl ⟨rfl, rfl, rfl, rfl, rfl⟩ rfl rfl rfl rfl rfl (by kernel_rfl) Tryd.func6 (by kernel_rfl)
    (of_decide_eq_true (by kernel_rfl)) (by unfold Func.isWrapper; first | (rw [if_pos (by decide +kernel)]; kernel_rfl) | (rw [if_neg (by decide +kernel)]; exact ⟨rfl, rfl⟩))
    (fun os started H enc _ => lifted os started H enc)

/-- No parameter wants a stand-in; the program's own looks are off. -/
theorem plain (f : FuncId) (fn : Func) (hf : Tryd.pinned.checked.prog.funcNamed Rows.sumsNoughtRow.func = some f) (hfn : Tryd.pinned.checked.prog.funcs[f]? = some fn) :
    false = Tryd.pinned.checked.prog.looks [] ∧ ∀ (j : Nat) t, fn.params[j]? = some t → Tryd.pinned.checked.prog.wantsStandIn t = false := by
  obtain rfl : f = 6 := Option.some.inj ((show Tryd.prog.funcNamed Rows.sumsNoughtRow.func = some 6 by kernel_rfl).symm.trans hf) |>.symm
  obtain rfl : fn = Tryd.f6 := (Option.some.inj (Tryd.func6.symm.trans hfn)).symm
  refine ⟨by kernel_rfl, fun j t ht => ?_⟩
  rw [Tryd.params6] at ht
  have hm : t = 9 := by
    have := Array.mem_of_getElem? ht
    simp at this
    omega
  rcases hm with rfl
  · exact (show Tryd.prog.wantsStandIn 9 = false by kernel_rfl)

theorem card : Rows.SumsNoughtCardSaid :=
  Claim7.holds_tied_plain_at .later [] _ _ _ _ said (fun _ h => by cases h) (by kernel_rfl) (fun _ h => by cases h) sumsNought_row_tie rfl ⟨rfl, rfl⟩ (by kernel_rfl) rfl plain (by kernel_rfl)

end Go.Proofs.YtdmgkgomldjnhaaDoor.sumsNought
namespace Go.Proofs.YtdmgkgomldjnhaaDoor
theorem sumsNought_card : Rows.SumsNoughtCardSaid := sumsNought.card
#print axioms sumsNought_card
end Go.Proofs.YtdmgkgomldjnhaaDoor
