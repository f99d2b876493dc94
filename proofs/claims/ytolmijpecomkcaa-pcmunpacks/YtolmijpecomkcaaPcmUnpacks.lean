/-
  Own text: for every text, every three numbers and every layout the program takes the bytes as samples, or refuses them, just as the document does. No condition.
-/
import Derived.Test.YtolmijpecomkcaaQ5link
import Derived.Test.YtolmijpecomkcaaQ5args
import Derived.WalkKit
import Derived.ProofKit
import Derived.OpenShut
import Derived.ShutString
import Derived.ChangeOld
import Derived.Below
import Derived.SizedLaws
namespace Go.Proofs.Ytolmijpecomkcaa.pcmUnpacks
open Go.ChangeShapes Go.WideShapes Go.ChangeAt Go.RowKit
open Go.ChangeMaps (open_string shut_string)
set_option linter.unusedSimpArgs false
set_option linter.unusedVariables false

theorem own : ownKnob Try.prog.godebug = none := by kernel_rfl
theorem laidOut : laidOutB Try.prog = true := by kernel_rfl

set_option maxRecDepth 20000 in
set_option maxHeartbeats 6400000 in
theorem walk (s : ByteArray) (hs : s.size ≤ 140737488351232) (n0 n1 n2 : Int) (kg ku : Bool) (w : World) :
    Calls Try.prog 4 #[.string s, .agg #[.int .i64 n0, .int .i64 n1, .int .i64 n2], .agg #[.bool kg, .bool ku]] w fun e w' => e = .returned (.bool true) ∧ Below w.heap.size w w' := by
  have HU : Hid (∀ wx, Calls Try.prog 15 #[.string s, .int .i64 n0, .int .i64 n1, .int .i64 n2, .agg #[.bool kg, .bool ku]] wx fun e w' => ∃ ao cap, e = .returned (.tuple #[pcmV (unpP s n0 n1 n2 kg ku) ao cap, .int .i64 (unpE s n0 n1 n2 kg ku)]) ∧ Hid (RowsAt w' ao (unpP s n0 n1 n2 kg ku).pl) ∧ Hid (Below wx.heap.size wx w')) := fun wx => (unpack_spec s n0 n1 n2 kg ku wx (by omega)).mono fun e w' h => by
    obtain ⟨ao, cap, h1, h2, _, h4⟩ := h
    rw [uP_unpP, uE_unpE] at h1
    rw [uP_unpP] at h2
    exact ⟨ao, cap, h1, h2, h4⟩
  have HV : Hid (∀ wx, Calls Try.prog 16 #[.string s, .int .i64 n0, .int .i64 n1, .int .i64 n2, .agg #[.bool kg, .bool ku]] wx fun e w' => ∃ ao cap, e = .returned (.tuple #[pcmV (unpP s n0 n1 n2 kg ku) ao cap, .int .i64 (unpE s n0 n1 n2 kg ku)]) ∧ Hid (RowsAt w' ao (unpP s n0 n1 n2 kg ku).pl) ∧ Hid (Below wx.heap.size wx w')) := fun wx => (runpack_spec s n0 n1 n2 kg ku wx (by omega)).mono fun e w' h => by
    obtain ⟨ao, cap, h1, h2, _, h4⟩ := h
    exact ⟨ao, cap, h1, h2, h4⟩
  generalize unpP s n0 n1 n2 kg ku = q at *
  generalize unpE s n0 n1 n2 kg ku = er at *
  have hal : ∀ (w : World) (o : Obj), Below w.heap.size w (w.alloc o) := fun w o => (Below.refl _ _).alloc (Nat.le_refl _) _
  have b0 : (((w.alloc (.cells #[.int .i64 n0, .int .i64 n1, .int .i64 n2] 32)).alloc (.cells #[.bool kg, .bool ku] 34))).heap[w.heap.size]? = some (.cells #[.int .i64 n0, .int .i64 n1, .int .i64 n2] 32 (0, 0)) := by
    rw [(hal _ _).block _ (by simp)]
    exact heap_alloc_new _ _
  have b1 : (((w.alloc (.cells #[.int .i64 n0, .int .i64 n1, .int .i64 n2] 32)).alloc (.cells #[.bool kg, .bool ku] 34))).heap[w.heap.size + 1]? = some (.cells #[.bool kg, .bool ku] 34 (0, 0)) := by
    have hh := heap_alloc_new (w.alloc (.cells #[.int .i64 n0, .int .i64 n1, .int .i64 n2] 32)) (.cells #[.bool kg, .bool ku] 34)
    rw [show (w.alloc (.cells #[.int .i64 n0, .int .i64 n1, .int .i64 n2] 32)).heap.size = w.heap.size + 1 from by simp] at hh
    exact hh
  have HB0 : Hid ((((w.alloc (.cells #[.int .i64 n0, .int .i64 n1, .int .i64 n2] 32)).alloc (.cells #[.bool kg, .bool ku] 34))).heap[w.heap.size]? = some (.cells #[.int .i64 n0, .int .i64 n1, .int .i64 n2] 32 (0, 0))) := b0
  have HB1 : Hid ((((w.alloc (.cells #[.int .i64 n0, .int .i64 n1, .int .i64 n2] 32)).alloc (.cells #[.bool kg, .bool ku] 34))).heap[w.heap.size + 1]? = some (.cells #[.bool kg, .bool ku] 34 (0, 0))) := b1
  have HBW : Hid (Below w.heap.size w (((w.alloc (.cells #[.int .i64 n0, .int .i64 n1, .int .i64 n2] 32)).alloc (.cells #[.bool kg, .bool ku] 34)))) := (hal w _).alloc (by simp) _
  clear b0 b1 hal
  go_enter Try.func4, Try.ntmps4
  go_wp2_with fail
  refine (HU.out _).mono ?_
  rintro e w2 ⟨ao, cap, rfl, hr2, hb2⟩
  have e0 : w2.heap[w.heap.size]? = some (.cells #[.int .i64 n0, .int .i64 n1, .int .i64 n2] 32 (0, 0)) := by rw [hb2.out.block _ (lt_of_block HB0.out)]; exact HB0.out
  have e1 : w2.heap[w.heap.size + 1]? = some (.cells #[.bool kg, .bool ku] 34 (0, 0)) := by rw [hb2.out.block _ (lt_of_block HB1.out)]; exact HB1.out
  have HW2 : Hid (Below w.heap.size w w2) := HBW.out.trans (hb2.out.mono HBW.out.size)
  have HR2 : Hid (RowsAt (w2.alloc (.cells (pcmC q ao cap) 24)) ao q.pl) := hr2.out.below ((Below.refl _ _).alloc (Nat.le_refl _) _)
  have H3 : Hid (Below w2.heap.size w2 (w2.alloc (.cells (pcmC q ao cap) 24))) := (Below.refl _ _).alloc (Nat.le_refl _) _
  have H4 : Hid ((w2.alloc (.cells (pcmC q ao cap) 24)).heap[w2.heap.size]? = some (.cells (pcmC q ao cap) 24 (0, 0))) := heap_alloc_new _ _
  have e03 : (w2.alloc (.cells (pcmC q ao cap) 24)).heap[w.heap.size]? = some (.cells #[.int .i64 n0, .int .i64 n1, .int .i64 n2] 32 (0, 0)) := by rw [H3.out.block _ (lt_of_block e0)]; exact e0
  have e13 : (w2.alloc (.cells (pcmC q ao cap) 24)).heap[w.heap.size + 1]? = some (.cells #[.bool kg, .bool ku] 34 (0, 0)) := by rw [H3.out.block _ (lt_of_block e1)]; exact e1
  have d0 : (w2.alloc (.cells (pcmC q ao cap) 24)).cell? ⟨w.heap.size, 0, none⟩ = some (.int .i64 n0) := by rw [cell_of_row _ _ _ _ _ _ e03]; rfl
  have d1 : (w2.alloc (.cells (pcmC q ao cap) 24)).cell? ⟨w.heap.size, 1, none⟩ = some (.int .i64 n1) := by rw [cell_of_row _ _ _ _ _ _ e03]; rfl
  have d2 : (w2.alloc (.cells (pcmC q ao cap) 24)).cell? ⟨w.heap.size, 2, none⟩ = some (.int .i64 n2) := by rw [cell_of_row _ _ _ _ _ _ e03]; rfl
  have d3 : (w2.alloc (.cells (pcmC q ao cap) 24)).cell? ⟨w.heap.size + 1, 0, none⟩ = some (.bool kg) := by rw [cell_of_row _ _ _ _ _ _ e13]; rfl
  have d4 : (w2.alloc (.cells (pcmC q ao cap) 24)).cell? ⟨w.heap.size + 1, 1, none⟩ = some (.bool ku) := by rw [cell_of_row _ _ _ _ _ _ e13]; rfl
  clear e0 e1 e03 e13 hr2 hb2 HB0 HB1 HBW
  go_wp2_with fail
  refine (HV.out _).mono ?_
  rintro e w4 ⟨bo, bap, rfl, hr4, hb4⟩
  clear d0 d1 d2 d3 d4
  have HW4 : Hid (Below w.heap.size w w4) := (HW2.out.trans (H3.out.mono HW2.out.size)).trans (hb4.out.mono (HW2.out.trans (H3.out.mono HW2.out.size)).size)
  have H6 : Hid (Below w4.heap.size w4 (w4.alloc (.cells (pcmC q bo bap) 24))) := (Below.refl _ _).alloc (Nat.le_refl _) _
  have HRA : Hid (RowsAt (w4.alloc (.cells (pcmC q bo bap) 24)) ao q.pl) := (HR2.out.below hb4.out).below H6.out
  have HRB : Hid (RowsAt (w4.alloc (.cells (pcmC q bo bap) 24)) bo q.pl) := hr4.out.below H6.out
  have g1 : (w4.alloc (.cells (pcmC q bo bap) 24)).heap[w2.heap.size]? = some (.cells (pcmC q ao cap) 24 (0, 0)) := by
    have h1 : w4.heap[w2.heap.size]? = some (.cells (pcmC q ao cap) 24 (0, 0)) := by rw [hb4.out.block _ (lt_of_block H4.out)]; exact H4.out
    rw [H6.out.block _ (lt_of_block h1)]
    exact h1
  have g2 : (w4.alloc (.cells (pcmC q bo bap) 24)).heap[w4.heap.size]? = some (.cells (pcmC q bo bap) 24 (0, 0)) := heap_alloc_new _ _
  have HW6 : Hid (Below w.heap.size w (w4.alloc (.cells (pcmC q bo bap) 24))) := HW4.out.trans (H6.out.mono HW4.out.size)
  have ks := rsame_spec q q ao bo cap bap _ HRA.out HRB.out
  rw [sameB_refl] at ks
  have x0 : (w4.alloc (.cells (pcmC q bo bap) 24)).cell? ⟨w2.heap.size, 0, none⟩ = some (.int .i64 q.rate) := by rw [cell_of_row _ _ _ _ _ _ g1]; rfl
  have x1 : (w4.alloc (.cells (pcmC q bo bap) 24)).cell? ⟨w2.heap.size, 1, none⟩ = some (.int .i64 q.ch) := by rw [cell_of_row _ _ _ _ _ _ g1]; rfl
  have x2 : (w4.alloc (.cells (pcmC q bo bap) 24)).cell? ⟨w2.heap.size, 2, none⟩ = some (.int .i64 q.wd) := by rw [cell_of_row _ _ _ _ _ _ g1]; rfl
  have x3 : (w4.alloc (.cells (pcmC q bo bap) 24)).cell? ⟨w2.heap.size, 3, none⟩ = some (.slice ao q.pl.length cap) := by rw [cell_of_row _ _ _ _ _ _ g1]; rfl
  clear g1 g2 hr4 hb4 H3 H4 H6 HRA HRB HR2 HW2 HW4 HU HV
  go_wp2_with fail
  refine ks.mono ?_
  rintro e w7 ⟨rfl, hb7⟩
  have HW7 : Hid (Below w.heap.size w w7) := HW6.out.trans (hb7.mono HW6.out.size)
  clear ks hb7 HW6 x0 x1 x2 x3
  have ka := awake_spec w7
  go_wp2_with fail
  refine ka.mono ?_
  rintro e w8 ⟨rfl, hb8⟩
  have HW8 : Hid (Below w.heap.size w w8) := HW7.out.trans (hb8.mono HW7.out.size)
  clear ka hb8 HW7
  go_wp2_with fail
  go_ret
  exact ⟨rfl, HW8.out⟩


set_option maxRecDepth 100000 in
theorem lifted (os : Os) (started : os.Started) (H : Type) (enc : TypeId × Value → H) :
    ReturnsInHanded {} Try.checked os 4 .any (Rows.pcmUnpacksSpec.pre6 enc Try.prog Try.f4 Rows.pcmUnpacksRow.domain false) (Rows.pcmUnpacksSpec.post enc Try.prog Try.f4 false true false false) := by
  refine returnsInHanded_of_change_sized (C := Try.checked) own started (by kernel_rfl) Try.func4
    (ChangeSpec.witness6 (enc := enc) (C := Try.checked) false ⟨#[], #[.string ByteArray.empty, .agg #[.int .i64 0, .int .i64 0, .int .i64 0], .agg #[.bool false, .bool false]], []⟩ 8 (by kernel_rfl) (by kernel_rfl) (by kernel_rfl) (by kernel_rfl)) ?_
  intro W base args ds gs before hval0 hW hcnd0 hsz0 hholds
  have hval : ∀ (j : Nat) t v, Try.f4.params[j]? = some t → args[j]? = some v → Value.okWide Try.prog W .any base t v := hval0
  have hsz : (DataW.weightsEach Try.prog (Try.f4.params.toList ++ Rows.pcmUnpacksSpec.plain.varTypes Try.prog) (ds ++ gs)).all (· ≤ reachBytes) = true := hsz0
  have hW' := hW
  obtain ⟨p, q, hA0, hV, rfl, hfz, hnd⟩ := hW
  have hA : DataW.TrodAll enc Try.prog W 0 (fun _ => true) true Try.f4.params.toList args.toList ds p := hA0
  rw [Try.params4] at hA hval hsz
  obtain ⟨v0, vs0, d0, ds0, p0, q0, hargs, rfl, rfl, h0, r0⟩ := trodAll_cons hA
  obtain ⟨v1, vs1, d1, ds1, p1, q1, rfl, rfl, rfl, h1, r1⟩ := trodAll_cons r0
  obtain ⟨v2, vs2, d2, ds2, p2, q2, rfl, rfl, rfl, h2, r2⟩ := trodAll_cons r1
  obtain ⟨rfl, rfl, rfl⟩ := trodAll_nil r2
  obtain rfl : args = #[v0, v1, v2] := by cases args; simp_all
  obtain ⟨rfl, rfl⟩ := trodVars_none hV
  have hall := List.all_eq_true.1 hsz
  obtain ⟨x0, rfl, rfl, rfl, i0⟩ := open_string Try.underlying9 (hval 0 9 v0 rfl rfl) h0
  have hq0 := sized_string hsz (j := 0) (t := 9) rfl rfl
  have hz0 : x0.size ≤ 140737488351232 := by
    have e : x0.data.toList.length = x0.size := by rw [Array.length_toList]; rfl
    rw [e] at hq0
    simp only [reachBytes] at hq0
    omega
  have k1 := h1
  have lt1 : ∀ x ∈ p1, x.block < W.heap.size := by obtain ⟨m, hm⟩ := k1; exact DataW.trod_lt m _ _ _ hm
  obtain ⟨y1a, y1b, y1c, rfl⟩ := open_three (hval 1 32 v1 rfl rfl) h1
  have k2 := h2
  have lt2 : ∀ x ∈ p2, x.block < W.heap.size := by obtain ⟨m, hm⟩ := k2; exact DataW.trod_lt m _ _ _ hm
  obtain ⟨g2, u2, rfl, rfl, rfl⟩ := open_layout0 (hval 2 34 v2 rfl rfl) h2
  clear hA0 hval0
  refine (walk x0 hz0 y1a y1b y1c g2 u2 W).mono fun e W' ⟨he, bel⟩ => ?_
  subst he
  exact ⟨_, rfl, _, _, _, [], _, [], hW', trodAll_mk1 (shut_bool Try.underlying4 _), (trodAll_cons_mk (shut_string Try.underlying9 i0) (trodAll_cons_mk (Below.trod laidOut (by kernel_rfl) (of_decide_eq_true (by kernel_rfl)) k1 bel lt1) (trodAll_cons_mk (Below.trod laidOut (by kernel_rfl) (of_decide_eq_true (by kernel_rfl)) k2 bel lt2) trodAll_mk0))), rfl, bel.frame _, fun h => by cases h⟩

theorem over : Rows.pcmUnpacksRow.holds Try.pinned (OpenSpec.ofChange Rows.pcmUnpacksSpec) :=
  OpenClaim.holds_of_wide 4 Try.f4 rfl rfl rfl rfl rfl rfl rfl ⟨rfl, rfl, rfl, rfl, rfl⟩ rfl rfl rfl rfl rfl (by kernel_rfl) Try.func4 (by kernel_rfl)
    (of_decide_eq_true (by kernel_rfl)) (by unfold Func.isWrapper; first | (rw [if_pos (by decide +kernel)]; kernel_rfl) | (rw [if_neg (by decide +kernel)]; exact ⟨rfl, rfl⟩))
    (fun os started H enc _ => lifted os started H enc)

end Go.Proofs.Ytolmijpecomkcaa.pcmUnpacks
namespace Go.Proofs.Ytolmijpecomkcaa
theorem pcmUnpacks_holds : Rows.PcmUnpacksSaid := pcmUnpacks.over
#print axioms pcmUnpacks_holds
end Go.Proofs.Ytolmijpecomkcaa
