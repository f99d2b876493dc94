/-
  Own text: for every PCM and every number the program says of which PCMs may be, which formats can have them and how many samples they have what the document says. No condition.
-/
import Derived.Test.YtolmijpecomkcaaQ5awake
import Derived.Test.YtolmijpecomkcaaP5fits
import Derived.Test.YtolmijpecomkcaaQ5args
import Derived.Deep.RegionHeld3
import Derived.WalkKit
import Derived.ProofKit
import Derived.OpenShut
import Derived.ShutString
import Derived.ChangeOld
import Derived.Below
import Derived.SizedLaws
namespace Go.Proofs.Ytolmijpecomkcaa.pcmChecks
open Go.ChangeShapes Go.WideShapes Go.ChangeAt Go.RowKit
open Go.ChangeMaps (open_string shut_string)
set_option linter.unusedSimpArgs false
set_option linter.unusedVariables false

theorem own : ownKnob Try.prog.godebug = none := by kernel_rfl
theorem laidOut : laidOutB Try.prog = true := by kernel_rfl

set_option maxRecDepth 20000 in
set_option maxHeartbeats 6400000 in
theorem walk (p : Pcm) (po : Option Addr) (pc : Nat) (fp : Fair p) (f : Int) (f1 : -9223372036854775808 ≤ f) (f2 : f ≤ 9223372036854775807) (w : World) (rp : RowsAt w po p.pl) :
    Calls Try.prog 3 #[pcmV p po pc, .int .i64 f] w fun e w' => e = .returned (.bool true) ∧ Below w.heap.size w w' := by
  have K1 : Hid (∀ wx, Hid (Bx w p po pc wx) → Calls Try.prog 8 #[.agg #[.int .i64 p.rate, .int .i64 p.ch, .int .i64 p.wd, .slice po p.pl.length pc]] wx fun e w' => e = .returned (.int .i64 (checkN p)) ∧ Hid (Bx w p po pc w')) := fun wx hx => (check_spec p po pc wx (rp.below hx.out.below)).mono fun e w' h => ⟨h.1, hx.out.next h.2⟩
  have K2 : Hid (∀ wx, Hid (Bx w p po pc wx) → Calls Try.prog 9 #[.agg #[.int .i64 p.rate, .int .i64 p.ch, .int .i64 p.wd, .slice po p.pl.length pc]] wx fun e w' => e = .returned (.int .i64 (checkN p)) ∧ Hid (Bx w p po pc w')) := fun wx hx => (rcheck_spec p po pc wx (rp.below hx.out.below)).mono fun e w' h => ⟨h.1, hx.out.next h.2⟩
  have K3 : Hid (∀ wx, Hid (Bx w p po pc wx) → Calls Try.prog 10 #[.int .i64 f, .agg #[.int .i64 p.rate, .int .i64 p.ch, .int .i64 p.wd, .slice po p.pl.length pc]] wx fun e w' => e = .returned (.int .i64 (fitsN f p)) ∧ Hid (Bx w p po pc w')) := fun wx hx => (fits5_spec f p po pc wx (rp.below hx.out.below)).mono fun e w' h => ⟨h.1, hx.out.next h.2⟩
  have K4 : Hid (∀ wx, Hid (Bx w p po pc wx) → Calls Try.prog 11 #[.int .i64 f, .agg #[.int .i64 p.rate, .int .i64 p.ch, .int .i64 p.wd, .slice po p.pl.length pc]] wx fun e w' => e = .returned (.int .i64 (fitsN f p)) ∧ Hid (Bx w p po pc w')) := fun wx hx => (rfits_spec f p po pc wx (rp.below hx.out.below)).mono fun e w' h => ⟨h.1, hx.out.next h.2⟩
  have K5 : Hid (∀ wx, Hid (Bx w p po pc wx) → Calls Try.prog 12 #[.agg #[.int .i64 p.rate, .int .i64 p.ch, .int .i64 p.wd, .slice po p.pl.length pc]] wx fun e w' => e = .returned (.int .i64 (lenP p : Int)) ∧ Hid (Bx w p po pc w')) := fun wx hx => (len_spec p po pc wx (rp.below hx.out.below)).mono fun e w' h => ⟨h.1, hx.out.next h.2⟩
  have K6 : Hid (∀ wx, Hid (Bx w p po pc wx) → Calls Try.prog 13 #[.agg #[.int .i64 p.rate, .int .i64 p.ch, .int .i64 p.wd, .slice po p.pl.length pc]] wx fun e w' => e = .returned (.int .i64 (lenP p : Int)) ∧ Hid (Bx w p po pc w')) := fun wx hx => (rlen_spec p po pc wx (rp.below hx.out.below)).mono fun e w' h => ⟨h.1, hx.out.next h.2⟩
  have K7 : Hid (∀ wx, Hid (Bx w p po pc wx) → Calls Try.prog 14 #[] wx fun e w' => e = .returned (.bool true) ∧ Hid (Bx w p po pc w')) := fun wx hx => (awake_spec wx).mono fun e w' h => ⟨h.1, hx.out.next h.2⟩
  have HB0 : Hid (Bx w p po pc (w.alloc (.cells (pcmC p po pc) 24))) := Bx.new w p po pc
  have hll := len_of p rp
  clear rp
  generalize checkN p = n1 at *
  generalize fitsN f p = n2 at *
  generalize lenP p = n3 at *
  have HS : Hid (∀ wx, Hid (Bx w p po pc wx) → wx.cell? ⟨w.heap.size, 0, none⟩ = some (.int .i64 p.rate) ∧ wx.cell? ⟨w.heap.size, 1, none⟩ = some (.int .i64 p.ch) ∧ wx.cell? ⟨w.heap.size, 2, none⟩ = some (.int .i64 p.wd) ∧ wx.cell? ⟨w.heap.size, 3, none⟩ = some (.slice po p.pl.length pc)) := fun wx hx => ⟨hx.out.c0, hx.out.c1, hx.out.c2, hx.out.c3⟩
  go_enter Try.func3, Try.ntmps3
  go_wp2_with fail
  generalize hwa : w.alloc _ = wa
  have HA : Hid (Bx w p po pc wa) := by
    rw [← hwa]
    exact HB0.out
  have HD : Hid (Bx w p po pc wa.drew) := HA.out.next ⟨rfl, rfl, rfl, Nat.le_refl _, fun _ _ => rfl⟩
  clear hwa HB0
  go_region_held3 (fun wx => wx.cell? ⟨w.heap.size, 0, none⟩ = some (.int .i64 p.rate) ∧ wx.cell? ⟨w.heap.size, 1, none⟩ = some (.int .i64 p.ch) ∧ wx.cell? ⟨w.heap.size, 2, none⟩ = some (.int .i64 p.wd) ∧ wx.cell? ⟨w.heap.size, 3, none⟩ = some (.slice po p.pl.length pc)) (exact HS.out _ (by assumption))
    (first
      | (go_at_call 8; refine (K1.out _ (by assumption)).mono ?_; rintro e w2 ⟨rfl, h2⟩)
      | (go_at_call 9; refine (K2.out _ (by assumption)).mono ?_; rintro e w3 ⟨rfl, h3⟩)
      | (go_at_call 10; refine (K3.out _ (by assumption)).mono ?_; rintro e w4 ⟨rfl, h4⟩)
      | (go_at_call 11; refine (K4.out _ (by assumption)).mono ?_; rintro e w5 ⟨rfl, h5⟩)
      | (go_at_call 12; refine (K5.out _ (by assumption)).mono ?_; rintro e w6 ⟨rfl, h6⟩)
      | (go_at_call 13; refine (K6.out _ (by assumption)).mono ?_; rintro e w7 ⟨rfl, h7⟩)
      | (go_at_call 14; refine (K7.out _ (by assumption)).mono ?_; rintro e w8 ⟨rfl, h8⟩))
  go_wp2_with fail
  go_ret
  exact ⟨rfl, (by assumption : Hid (Bx w p po pc w8)).out.below⟩


set_option maxRecDepth 100000 in
theorem lifted (os : Os) (started : os.Started) (H : Type) (enc : TypeId × Value → H) :
    ReturnsInHanded {} Try.checked os 3 .any (Rows.pcmChecksSpec.pre6 enc Try.prog Try.f3 Rows.pcmChecksRow.domain false) (Rows.pcmChecksSpec.post enc Try.prog Try.f3 false true false false) := by
  refine returnsInHanded_of_change_sized (C := Try.checked) own started (by kernel_rfl) Try.func3
    (ChangeSpec.witness6 (enc := enc) (C := Try.checked) false ⟨#[], #[.agg #[.int .i64 0, .int .i64 0, .int .i64 0, .slice none 0 0], .int .i64 0], []⟩ 8 (by kernel_rfl) (by kernel_rfl) (by kernel_rfl) (by kernel_rfl)) ?_
  intro W base args ds gs before hval0 hW hcnd0 hsz0 hholds
  have hval : ∀ (j : Nat) t v, Try.f3.params[j]? = some t → args[j]? = some v → Value.okWide Try.prog W .any base t v := hval0
  have hsz : (DataW.weightsEach Try.prog (Try.f3.params.toList ++ Rows.pcmChecksSpec.plain.varTypes Try.prog) (ds ++ gs)).all (· ≤ reachBytes) = true := hsz0
  have hW' := hW
  obtain ⟨p, q, hA0, hV, rfl, hfz, hnd⟩ := hW
  have hA : DataW.TrodAll enc Try.prog W 0 (fun _ => true) true Try.f3.params.toList args.toList ds p := hA0
  rw [Try.params3] at hA hval hsz
  obtain ⟨v0, vs0, d0, ds0, p0, q0, hargs, rfl, rfl, h0, r0⟩ := trodAll_cons hA
  obtain ⟨v1, vs1, d1, ds1, p1, q1, rfl, rfl, rfl, h1, r1⟩ := trodAll_cons r0
  obtain ⟨rfl, rfl, rfl⟩ := trodAll_nil r1
  obtain rfl : args = #[v0, v1] := by cases args; simp_all
  obtain ⟨rfl, rfl⟩ := trodVars_none hV
  have hall := List.all_eq_true.1 hsz
  have hw0 : ∀ n ∈ d0.weights Try.prog 24, n ≤ reachBytes := fun n hn => by
    have := hall n (List.mem_append.2 (.inl hn))
    exact of_decide_eq_true this
  have k0 := h0
  have lt0 : ∀ x ∈ p0, x.block < W.heap.size := by obtain ⟨m, hm⟩ := k0; exact DataW.trod_lt m _ _ _ hm
  obtain ⟨x0, o0, c0, rfl, hr0, hf0⟩ := open_pcm0 (hval 0 24 v0 rfl rfl) h0 hw0
  obtain ⟨x1, rfl, rfl, rfl, i1⟩ := open_int Try.underlying3 (hval 1 3 v1 rfl rfl) h1
  have ib1 := bounds_i64 i1
  clear hA0 hval0
  refine (walk x0 o0 c0 hf0 x1 ib1.1 ib1.2 W hr0).mono fun e W' ⟨he, bel⟩ => ?_
  subst he
  exact ⟨_, rfl, _, _, _, [], _, [], hW', trodAll_mk1 (shut_bool Try.underlying4 _), (trodAll_cons_mk (Below.trod laidOut (by kernel_rfl) (of_decide_eq_true (by kernel_rfl)) k0 bel lt0) (trodAll_cons_mk (shut_int Try.underlying3 i1) trodAll_mk0)), rfl, bel.frame _, fun h => by cases h⟩

theorem over : Rows.pcmChecksRow.holds Try.pinned (OpenSpec.ofChange Rows.pcmChecksSpec) :=
  OpenClaim.holds_of_wide 3 Try.f3 rfl rfl rfl rfl rfl rfl rfl ⟨rfl, rfl, rfl, rfl, rfl⟩ rfl rfl rfl rfl rfl (by kernel_rfl) Try.func3 (by kernel_rfl)
    (of_decide_eq_true (by kernel_rfl)) (by unfold Func.isWrapper; first | (rw [if_pos (by decide +kernel)]; kernel_rfl) | (rw [if_neg (by decide +kernel)]; exact ⟨rfl, rfl⟩))
    (fun os started H enc _ => lifted os started H enc)

end Go.Proofs.Ytolmijpecomkcaa.pcmChecks
namespace Go.Proofs.Ytolmijpecomkcaa
theorem pcmChecks_holds : Rows.PcmChecksSaid := pcmChecks.over
#print axioms pcmChecks_holds
end Go.Proofs.Ytolmijpecomkcaa
