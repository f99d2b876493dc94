/-
  For every text s the law BytesReads answers true: FromLe, FromBe, Uncoded and FromRate of the program answer the number, how many bytes it has, and the error that the document says. The only bound on s is the statement's own (a text takes at most 2^47 - 4096 bytes).
-/
import Derived.Test.YtkbpecckphkhnaaAwake
import Derived.WalkKit
import Derived.ProofKit
import Derived.OpenShut
import Derived.ShutString
import Derived.ChangeOld
import Derived.Below
import Derived.SizedLaws
namespace Go.Proofs.Ytkbpecckphkhnaa.bytesReads
open Go.ChangeShapes Go.WideShapes Go.ChangeAt Go.RowKit
open Go.ChangeMaps (open_string shut_string)
set_option linter.unusedSimpArgs false
set_option linter.unusedVariables false

theorem own : ownKnob Try.prog.godebug = none := by kernel_rfl
theorem laidOut : laidOutB Try.prog = true := by kernel_rfl

set_option maxRecDepth 20000 in
set_option maxHeartbeats 3200000 in
theorem walk (s : ByteArray) (hs : s.size ≤ 140737488351232) (w : World) :
    Calls Try.prog 4 #[.string s] w fun e w' => e = .returned (.bool true) ∧ Below w.heap.size w w' := by
  go_enter Try.func4, Try.ntmps4
  go_wp2_with fail
  refine (uncoded_spec s (by omega) _).mono ?_
  rintro e w1 ⟨rfl, n1, rfl⟩
  unfold triple
  go_wp2_with fail
  refine (refuncoded_spec s (by omega) _).mono ?_
  rintro e w2 ⟨rfl, hB2⟩
  unfold triple
  generalize uncode (bytesOf s) = U
  obtain ⟨u1, u2, u3⟩ := U
  go_wp2_with fail
  refine (fromRate_spec s (by omega) _).mono ?_
  rintro e w3 ⟨rfl, hB3⟩
  unfold pairV
  go_wp2_with fail
  refine (reffromRate_spec s (by omega) _).mono ?_
  rintro e w4 ⟨rfl, hB4⟩
  unfold pairV
  generalize frV (bytesOf s) = V
  obtain ⟨v1, v2⟩ := V
  have h1 : Below w.heap.size w (w.drewN n1) := bel_drewN (Below.refl _ _)
  have h2 := h1.trans (hB2.mono h1.size)
  have h3 := h2.trans (hB3.mono h2.size)
  have h4 := h3.trans (hB4.mono h3.size)
  have H4 : Hid _ := h4
  clear hB2 hB3 hB4 h1 h2 h3 h4
  go_wp2_with fail
  refine (fromLe_spec s (by omega) _).mono ?_
  rintro e w5 ⟨rfl, rfl⟩
  go_wp2_with fail
  refine (reffromLe_spec s (by omega) _).mono ?_
  rintro e w6 ⟨rfl, hB6⟩
  generalize fromBe (bytesOf s).reverse = r1
  go_wp2_with fail
  refine (fromBe_spec s (by omega) _).mono ?_
  rintro e w7 ⟨rfl, rfl⟩
  go_wp2_with fail
  refine (reffromBe_spec s (by omega) _).mono ?_
  rintro e w8 ⟨rfl, rfl⟩
  generalize fromBe (bytesOf s) = r2
  have h6 := H4.out.trans (hB6.mono H4.out.size)
  have H6 : Hid _ := h6
  clear hB6 h6 H4
  go_wp2_with fail
  refine (awake_spec _).mono ?_
  rintro e w9 ⟨rfl, hB9⟩
  go_wp2
  go_ret
  exact ⟨rfl, H6.out.trans (hB9.mono H6.out.size)⟩

set_option maxRecDepth 100000 in
theorem lifted (os : Os) (started : os.Started) (H : Type) (enc : TypeId × Value → H) :
    ReturnsInHanded {} Try.checked os 4 .any (Rows.bytesReadsSpec.pre6 enc Try.prog Try.f4 Rows.bytesReadsRow.domain false) (Rows.bytesReadsSpec.post enc Try.prog Try.f4 false true false false) := by
  refine returnsInHanded_of_change_sized (C := Try.checked) own started (by kernel_rfl) Try.func4
    (ChangeSpec.witness6 (enc := enc) (C := Try.checked) false ⟨#[], #[.string ByteArray.empty], []⟩ 8 (by kernel_rfl) (by kernel_rfl) (by kernel_rfl) (by kernel_rfl)) ?_
  intro W base args ds gs before hval0 hW hcnd0 hsz0 hholds
  have hval : ∀ (j : Nat) t v, Try.f4.params[j]? = some t → args[j]? = some v → Value.okWide Try.prog W .any base t v := hval0
  have hsz : (DataW.weightsEach Try.prog (Try.f4.params.toList ++ Rows.bytesReadsSpec.plain.varTypes Try.prog) (ds ++ gs)).all (· ≤ reachBytes) = true := hsz0
  have hW' := hW
  obtain ⟨p, q, hA0, hV, rfl, hfz, hnd⟩ := hW
  have hA : DataW.TrodAll enc Try.prog W 0 (fun _ => true) true Try.f4.params.toList args.toList ds p := hA0
  rw [Try.params4] at hA hval hsz
  obtain ⟨v0, vs0, d0, ds0, p0, q0, hargs, rfl, rfl, h0, r0⟩ := trodAll_cons hA
  obtain ⟨rfl, rfl, rfl⟩ := trodAll_nil r0
  obtain rfl : args = #[v0] := by cases args; simp_all
  obtain ⟨rfl, rfl⟩ := trodVars_none hV
  obtain ⟨s0, rfl, rfl, rfl, hs0⟩ := open_string Try.underlying9 (hval 0 9 v0 rfl rfl) h0
  have hq0 := sized_string hsz (j := 0) (t := 9) rfl rfl
  have hz0 : s0.size ≤ 140737488351232 := by
    have e : s0.data.toList.length = s0.size := by rw [Array.length_toList]; rfl
    rw [e] at hq0
    simp only [reachBytes] at hq0
    omega
  clear hA0 hval0
  refine (walk s0 hz0 W).mono fun e W' ⟨he, bel⟩ => ?_
  subst he
  exact ⟨_, rfl, _, _, _, [], _, [], hW', trodAll_mk1 (shut_bool Try.underlying4 _), (trodAll_cons_mk (shut_string Try.underlying9 hs0) trodAll_mk0), rfl, bel.frame _, fun h => by cases h⟩

theorem over : Rows.bytesReadsRow.holds Try.pinned (OpenSpec.ofChange Rows.bytesReadsSpec) :=
  OpenClaim.holds_of_wide 4 Try.f4 rfl rfl rfl rfl rfl rfl rfl ⟨rfl, rfl, rfl, rfl, rfl⟩ rfl rfl rfl rfl rfl (by kernel_rfl) Try.func4 (by kernel_rfl)
    (of_decide_eq_true (by kernel_rfl)) (by unfold Func.isWrapper; first | (rw [if_pos (by decide +kernel)]; kernel_rfl) | (rw [if_neg (by decide +kernel)]; exact ⟨rfl, rfl⟩))
    (fun os started H enc _ => lifted os started H enc)

end Go.Proofs.Ytkbpecckphkhnaa.bytesReads
namespace Go.Proofs.Ytkbpecckphkhnaa
theorem bytesReads_holds : Rows.BytesReadsSaid := bytesReads.over
#print axioms bytesReads_holds
end Go.Proofs.Ytkbpecckphkhnaa
