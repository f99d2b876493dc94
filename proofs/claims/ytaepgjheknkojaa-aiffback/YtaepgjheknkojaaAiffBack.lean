/-
  Own text: the law AiffBack: a file that is taken apart is built as it was.
-/
import Derived.Test.YtaepgjheknkojaaQ7awake
import Derived.Test.YtaepgjheknkojaaQ7build
import Derived.WalkKit
import Derived.ProofKit
import Derived.OpenShut
import Derived.ShutString
import Derived.ChangeOld
import Derived.Below
import Derived.SizedLaws

namespace Go.Proofs.Ytaepgjheknkojaa.aiffBack
open Go.ChangeShapes Go.WideShapes Go.ChangeAt Go.RowKit
open Go.ChangeMaps (open_string shut_string)
set_option linter.unusedSimpArgs false
set_option linter.unusedVariables false

theorem own : ownKnob Try.prog.godebug = none := by kernel_rfl
theorem laidOut : laidOutB Try.prog = true := by kernel_rfl

set_option maxRecDepth 20000 in
set_option maxHeartbeats 3200000 in
theorem walk (s : ByteArray) (hs : s.size ≤ 140737488351232) (w : World) :
    Calls Try.prog 3 #[.string s] w fun e w' => e = .returned (.bool true) ∧ Below w.heap.size w w' := by
  have HP : Hid (∀ wx, Calls Try.prog 4 #[.string s] wx (GivesB7 wx s)) := fun wx => Parse7_spec s wx hs
  go_enter Try.func3, Try.ntmps3
  go_wp2_with fail
  refine (HP.out _).mono ?_
  rintro e w2 ⟨q, po, pc, wf, l, wo, wc, rfl, hB, hr, hc, hy, hn⟩
  have HB3 : Hid (Below w.heap.size w ((w2.alloc (.cells (pcmC q po pc) 24)).alloc (.cells (waveC wf l wo wc) 27))) := (hB.trans ((belA _ _).mono hB.size)).trans ((belA _ _).mono (hB.trans ((belA _ _).mono hB.size)).size)
  have HP3 : Hid (PB w2.heap.size q po pc ((w2.alloc (.cells (pcmC q po pc) 24)).alloc (.cells (waveC wf l wo wc) 27))) := (PB.new hr pc).next (belA _ _)
  have HW3 : Hid (WB (w2.heap.size + 1) wf l wo wc ((w2.alloc (.cells (pcmC q po pc) 24)).alloc (.cells (waveC wf l wo wc) 27))) := by
    have h := WB.new (f := wf) (hc.below (belA w2 (.cells (pcmC q po pc) 24))) wc
    rw [show (w2.alloc (.cells (pcmC q po pc) 24)).heap.size = w2.heap.size + 1 from by simp] at h
    exact h
  clear HP hB hr hc
  by_cases h0 : p7E s = 0
  · obtain ⟨rfl, rfl, rfl⟩ := hy h0
    obtain ⟨bE, bT⟩ := back7 s h0
    obtain ⟨w1, w2x, w3x⟩ := fair_read7 s h0
    have HF : Hid (FairT (p7L s) ∧ (p7L s).length ≤ 3500000000000 ∧ (opF s).size ≤ 140737488355328) := ⟨w1, by omega, by omega⟩
    clear w1 w2x w3x
    rw [h0]
    clear hy hn h0
    have kb := Build7_spec (p7P s) po pc (opF s) (p7L s) wo wc ((w2.alloc (.cells (pcmC (p7P s) po pc) 24)).alloc (.cells (waveC (opF s) (p7L s) wo wc) 27)) HP3.out.rows HW3.out.chks HF.out.1 HF.out.2.1 HF.out.2.2
    rw [bE, bT] at kb
    clear bE bT HF
    generalize p7P s = q at *
    generalize opF s = wf at *
    generalize p7L s = l at *
    have x0 := HP3.out.p 0 _ rfl
    have x1 := HP3.out.p 1 _ rfl
    have x2 := HP3.out.p 2 _ rfl
    have x3 := HP3.out.p 3 _ rfl
    have y0 := HW3.out.p 0 _ rfl
    have y1 := HW3.out.p 1 _ rfl
    go_wp2_with fail
    refine kb.mono ?_
    rintro e w4 ⟨rfl, hB4⟩
    have HB4 : Hid (Below w.heap.size w w4) := HB3.out.trans (hB4.mono HB3.out.size)
    have ka := awake7_spec w4
    clear kb hB4 HP3 HW3 HB3 x0 x1 x2 x3 y0 y1
    go_wp2_with fail
    refine ka.mono ?_
    rintro e w5 ⟨rfl, hB5⟩
    have HB5 : Hid (Below w.heap.size w w5) := HB4.out.trans (hB5.mono HB4.out.size)
    clear ka hB5 HB4
    go_wp2_with fail
    go_ret
    exact ⟨rfl, HB5.out⟩
  · obtain ⟨rfl, rfl, rfl⟩ := hn h0
    have hE : (p7E s != 0) = true := by simpa using h0
    clear hy hn h0
    generalize p7E s = E at *
    have x3 := HP3.out.p 3 _ rfl
    have y1 := HW3.out.p 1 _ rfl
    have ka := awake7_spec ((w2.alloc (.cells (pcmC ⟨0, 0, 0, []⟩ po pc) 24)).alloc (.cells (waveC ⟨#[]⟩ [] wo wc) 27))
    go_wp2_with fail
    refine ka.mono ?_
    rintro e w5 ⟨rfl, hB5⟩
    have HB5 : Hid (Below w.heap.size w w5) := HB3.out.trans (hB5.mono HB3.out.size)
    clear ka hB5 HB3
    go_wp2_with fail
    go_ret
    exact ⟨rfl, HB5.out⟩


set_option maxRecDepth 100000 in
theorem lifted (os : Os) (started : os.Started) (H : Type) (enc : TypeId × Value → H) :
    ReturnsInHanded {} Try.checked os 3 .any (Rows.aiffBackSpec.pre6 enc Try.prog Try.f3 Rows.aiffBackRow.domain false) (Rows.aiffBackSpec.post enc Try.prog Try.f3 false true false false) := by
  refine returnsInHanded_of_change_sized (C := Try.checked) own started (by kernel_rfl) Try.func3
    (ChangeSpec.witness6 (enc := enc) (C := Try.checked) false ⟨#[], #[.string ByteArray.empty], []⟩ 8 (by kernel_rfl) (by kernel_rfl) (by kernel_rfl) (by kernel_rfl)) ?_
  intro W base args ds gs before hval0 hW hcnd0 hsz0 hholds
  have hval : ∀ (j : Nat) t v, Try.f3.params[j]? = some t → args[j]? = some v → Value.okWide Try.prog W .any base t v := hval0
  have hsz : (DataW.weightsEach Try.prog (Try.f3.params.toList ++ Rows.aiffBackSpec.plain.varTypes Try.prog) (ds ++ gs)).all (· ≤ reachBytes) = true := hsz0
  have hW' := hW
  obtain ⟨p, q, hA0, hV, rfl, hfz, hnd⟩ := hW
  have hA : DataW.TrodAll enc Try.prog W 0 (fun _ => true) true Try.f3.params.toList args.toList ds p := hA0
  rw [Try.params3] at hA hval hsz
  obtain ⟨v0, vs0, d0, ds0, p0, q0, hargs, rfl, rfl, h0, r0⟩ := trodAll_cons hA
  obtain ⟨rfl, rfl, rfl⟩ := trodAll_nil r0
  obtain rfl : args = #[v0] := by cases args; simp_all
  obtain ⟨rfl, rfl⟩ := trodVars_none hV
  have hall := List.all_eq_true.1 hsz
  obtain ⟨x0, rfl, rfl, rfl, i0⟩ := open_string Try.underlying9 (hval 0 9 v0 rfl rfl) h0
  have hq0 := sized_string hsz (j := 0) (t := 9) rfl rfl
  have hz0 : x0.size ≤ 140737488351232 := by
    have e : x0.data.toList.length = x0.size := by rw [Array.length_toList]; rfl
    rw [e] at hq0
    simp only [reachBytes] at hq0
    omega
  clear hA0 hval0
  refine (walk x0 hz0 W).mono fun e W' ⟨he, bel⟩ => ?_
  subst he
  exact ⟨_, rfl, _, _, _, [], _, [], hW', trodAll_mk1 (shut_bool Try.underlying4 _), (trodAll_cons_mk (shut_string Try.underlying9 i0) trodAll_mk0), rfl, bel.frame _, fun h => by cases h⟩

theorem over : Rows.aiffBackRow.holds Try.pinned (OpenSpec.ofChange Rows.aiffBackSpec) :=
  OpenClaim.holds_of_wide 3 Try.f3 rfl rfl rfl rfl rfl rfl rfl ⟨rfl, rfl, rfl, rfl, rfl⟩ rfl rfl rfl rfl rfl (by kernel_rfl) Try.func3 (by kernel_rfl)
    (of_decide_eq_true (by kernel_rfl)) (by unfold Func.isWrapper; first | (rw [if_pos (by decide +kernel)]; kernel_rfl) | (rw [if_neg (by decide +kernel)]; exact ⟨rfl, rfl⟩))
    (fun os started H enc _ => lifted os started H enc)

end Go.Proofs.Ytaepgjheknkojaa.aiffBack
namespace Go.Proofs.Ytaepgjheknkojaa
theorem aiffBack_holds : Rows.AiffBackSaid := aiffBack.over
#print axioms aiffBack_holds
end Go.Proofs.Ytaepgjheknkojaa
