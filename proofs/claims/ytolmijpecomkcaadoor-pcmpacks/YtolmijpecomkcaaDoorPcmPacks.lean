/-
  Own text: for every PCM and every layout the program's bytes and digest are the document's. Laid: the package digest's two constant tables start as the program's text lays them (the card ties them).
-/
import Derived.Test.YtolmijpecomkcaaDoorQ5awake
import Derived.Test.YtolmijpecomkcaaDoorP5digest
import Derived.Test.YtolmijpecomkcaaDoorQ5args
import Derived.Test.YtolmijpecomkcaaDoorDlaid
import Derived.Test.YtolmijpecomkcaaDoorCards
import Derived.Test.YtolmijpecomkcaaDoorTie
import Derived.WalkKit
import Derived.ProofKit
import Derived.OpenShut
import Derived.ShutString
import Derived.ChangeOld
import Derived.Below
import Derived.SizedLaws
import Derived.Carry
namespace Go.Proofs.YtolmijpecomkcaaDoor.pcmPacks
open Go.ChangeShapes Go.WideShapes Go.ChangeAt Go.RowKit
open Go.ChangeMaps (open_string shut_string)
set_option linter.unusedSimpArgs false
set_option linter.unusedVariables false

theorem own : ownKnob Tryd.prog.godebug = none := by kernel_rfl
theorem laidOut : laidOutB Tryd.prog = true := by kernel_rfl

structure Bl (w0 : World) (p : Pcm) (po : Option Addr) (pc : Nat) (kg ku : Bool) (w : World) : Prop where
  bx : Bx w0 p po pc w
  ly : w.heap[w0.heap.size + 1]? = some (.cells #[.bool kg, .bool ku] 26 (0, 0))
section
variable {w0 w w' : World} {p q : Pcm} {po ao : Option Addr} {pc cap Q : Nat} {kg ku : Bool}
theorem Bl.next (h : Bl w0 p po pc kg ku w) (hB : Below w.heap.size w w') : Bl w0 p po pc kg ku w' := ⟨h.bx.next hB, by rw [hB.block _ (lt_of_block h.ly)]; exact h.ly⟩
theorem Bl.l0 (h : Bl w0 p po pc kg ku w) : w.cell? ⟨w0.heap.size + 1, 0, none⟩ = some (.bool kg) := by rw [cell_of_row _ _ _ _ _ _ h.ly]; rfl
theorem Bl.l1 (h : Bl w0 p po pc kg ku w) : w.cell? ⟨w0.heap.size + 1, 1, none⟩ = some (.bool ku) := by rw [cell_of_row _ _ _ _ _ _ h.ly]; rfl
theorem Bl.new (w : World) (p : Pcm) (po : Option Addr) (pc : Nat) (kg ku : Bool) : Bl w p po pc kg ku ((w.alloc (.cells (pcmC p po pc) 24)).alloc (.cells #[.bool kg, .bool ku] 26)) := by
  refine ⟨(Bx.new w p po pc).next ((Below.refl _ _).alloc (Nat.le_refl _) _), ?_⟩
  have hh := heap_alloc_new (w.alloc (.cells (pcmC p po pc) 24)) (.cells #[.bool kg, .bool ku] 26)
  rw [show (w.alloc (.cells (pcmC p po pc) 24)).heap.size = w.heap.size + 1 from by simp] at hh
  exact hh
end
theorem pak_pack (p : Pcm) (big uns : Bool) : pakN p big uns = packN p big uns := rfl

set_option maxRecDepth 20000 in
set_option maxHeartbeats 3200000 in
theorem digest_spec (p : Pcm) (ao : Option Addr) (cap : Nat) (w : World) (hr : RowsAt w ao p.pl) (hT : Dg.TabsAt w) :
    Calls Tryd.prog 6 #[pcmV p ao cap] w fun e w' => e = .returned (.tuple #[.string (digN p), .int .i64 (checkN p)]) ∧ Below w.heap.size w w' := by
  have HB0 : Hid (Bx w p ao cap (w.alloc (.cells (pcmC p ao cap) 24))) := Bx.new w p ao cap
  have KP : Hid (∀ wx, Hid (Bx w p ao cap wx) → Calls Tryd.prog 4 #[pcmV p ao cap, .agg #[.bool false, .bool false]] wx fun e w' => e = .returned (.tuple #[.string (packN p false false), .int .i64 (checkN p)]) ∧ Hid (Bx w p ao cap w')) := fun wx hx =>
    (pack_spec p ao cap false false wx (hr.below hx.out.below)).mono fun e w' h => ⟨h.1, hx.out.next h.2⟩
  have hsz := packN_size p false false
  have KO : Hid (∀ wx, Hid (Bx w p ao cap wx) → Calls Tryd.prog 22 #[.string (packN p false false)] wx fun e w' => e = .returned (.string (textOf (md5 (bytesOf (packN p false false))))) ∧ Hid (Bx w p ao cap w')) := fun wx hx => (Dg.of_spec wx (packN p false false) (hT.below hT.two hx.out.below) (by omega)).mono fun e w' h => ⟨h.1, hx.out.next h.2⟩
  clear hr hT
  by_cases hc : checkN p = 0
  · have HD : Hid (digN p = textOf (md5 (bytesOf (packN p false false)))) := by
      show _ = _
      unfold digN
      rw [if_pos hc]
    have HC : Hid (checkN p = 0) := hc
    rw [hc] at KP
    clear hc
    generalize packN p false false = s at *
    go_enter Tryd.func6, Tryd.ntmps6
    go_wp2_with fail
    generalize hwa : w.alloc _ = wa
    have HA : Hid (Bx w p ao cap wa) := by
      rw [← hwa]
      exact HB0.out
    clear hwa HB0
    refine (KP.out wa HA).mono ?_
    rintro e w4 ⟨rfl, h4⟩
    go_wp2_with fail
    refine (KO.out w4 h4).mono ?_
    rintro e w5 ⟨rfl, H5⟩
    go_wp2
    go_ret2
    exact ⟨by rw [HD.out, HC.out]; rfl, H5.out.below⟩
  · have HD : Hid (digN p = ⟨#[]⟩) := by
      show _ = _
      unfold digN
      rw [if_neg hc]
    have hbc : (checkN p == 0) = false := by rw [beq_eq_false_iff_ne]; exact hc
    clear KO hc
    generalize packN p false false = s at *
    generalize checkN p = cn at *
    go_enter Tryd.func6, Tryd.ntmps6
    go_wp2_with fail
    generalize hwa : w.alloc _ = wa
    have HA : Hid (Bx w p ao cap wa) := by
      rw [← hwa]
      exact HB0.out
    clear hwa HB0
    refine (KP.out wa HA).mono ?_
    rintro e w4 ⟨rfl, h4⟩
    go_wp2
    go_ret2
    exact ⟨by rw [HD.out]; rfl, h4.out.below⟩

set_option maxRecDepth 20000 in
set_option maxHeartbeats 6400000 in
theorem walk (p : Pcm) (po : Option Addr) (pc : Nat) (fp : Fair p) (kg ku : Bool) (w : World) (rp : RowsAt w po p.pl) (hT : Dg.TabsAt w) :
    Calls Tryd.prog 3 #[pcmV p po pc, .agg #[.bool kg, .bool ku]] w fun e w' => e = .returned (.bool true) ∧ Below w.heap.size w w' := by
  have HRP : Hid (RowsAt w po p.pl) := rp
  have HT : Hid (Dg.TabsAt w) := hT
  have HB0 : Hid (Bl w p po pc kg ku ((w.alloc (.cells (pcmC p po pc) 24)).alloc (.cells #[.bool kg, .bool ku] 26))) := Bl.new w p po pc kg ku
  have KP : Hid (∀ wx, Hid (Bl w p po pc kg ku wx) → Calls Tryd.prog 4 #[pcmV p po pc, .agg #[.bool kg, .bool ku]] wx fun e w' => e = .returned (.tuple #[.string (packN p kg ku), .int .i64 (checkN p)]) ∧ Hid (Bl w p po pc kg ku w')) := fun wx hx => (pack_spec p po pc kg ku wx (HRP.out.below hx.out.bx.below)).mono fun e w' h => ⟨h.1, hx.out.next h.2⟩
  have KR : Hid (∀ wx, Hid (Bl w p po pc kg ku wx) → Calls Tryd.prog 5 #[pcmV p po pc, .agg #[.bool kg, .bool ku]] wx fun e w' => e = .returned (.tuple #[.string (packN p kg ku), .int .i64 (checkN p)]) ∧ Hid (Bl w p po pc kg ku w')) := fun wx hx => (rpack_spec p po pc kg ku wx (HRP.out.below hx.out.bx.below)).mono fun e w' h => ⟨h.1, hx.out.next h.2⟩
  have KD : Hid (∀ wx, Hid (Bl w p po pc kg ku wx) → Calls Tryd.prog 6 #[pcmV p po pc] wx fun e w' => e = .returned (.tuple #[.string (digN p), .int .i64 (checkN p)]) ∧ Hid (Bl w p po pc kg ku w')) := fun wx hx => (digest_spec p po pc wx (HRP.out.below hx.out.bx.below) (HT.out.below HT.out.two hx.out.bx.below)).mono fun e w' h => ⟨h.1, hx.out.next h.2⟩
  have KE : Hid (∀ wx, Hid (Bl w p po pc kg ku wx) → Calls Tryd.prog 7 #[pcmV p po pc] wx fun e w' => e = .returned (.tuple #[.string (digN p), .int .i64 (checkN p)]) ∧ Hid (Bl w p po pc kg ku w')) := fun wx hx => (rdigest_spec p po pc wx (HRP.out.below hx.out.bx.below)).mono fun e w' h => ⟨h.1, hx.out.next h.2⟩
  have KA : Hid (∀ wx, Hid (Bl w p po pc kg ku wx) → Calls Tryd.prog 8 #[] wx fun e w' => e = .returned (.bool true) ∧ Hid (Bl w p po pc kg ku w')) := fun wx hx => (awake_spec wx).mono fun e w' h => ⟨h.1, hx.out.next h.2⟩
  clear rp hT
  have d0 := HB0.out.bx.c0
  have d1 := HB0.out.bx.c1
  have d2 := HB0.out.bx.c2
  have d3 := HB0.out.bx.c3
  have d4 := HB0.out.l0
  have d5 := HB0.out.l1
  generalize checkN p = cn at *
  generalize packN p kg ku = T at *
  generalize digN p = G at *
  have kp := KP.out _ HB0
  go_enter Tryd.func3, Tryd.ntmps3
  go_wp2_with fail
  refine kp.mono ?_
  rintro e w2 ⟨rfl, b2⟩
  clear kp HB0
  clear d0 d1 d2 d3 d4 d5
  have d0 := b2.out.bx.c0
  have d1 := b2.out.bx.c1
  have d2 := b2.out.bx.c2
  have d3 := b2.out.bx.c3
  have d4 := b2.out.l0
  have d5 := b2.out.l1
  have kx := KR.out w2 b2
  go_wp2_with fail
  refine kx.mono ?_
  rintro e w3 ⟨rfl, b3⟩
  clear kx b2
  clear d0 d1 d2 d3 d4 d5
  have d0 := b3.out.bx.c0
  have d1 := b3.out.bx.c1
  have d2 := b3.out.bx.c2
  have d3 := b3.out.bx.c3
  have d4 := b3.out.l0
  have d5 := b3.out.l1
  have kx := KD.out w3 b3
  go_wp2_with fail
  refine kx.mono ?_
  rintro e w4 ⟨rfl, b4⟩
  clear kx b3
  clear d0 d1 d2 d3 d4 d5
  have d0 := b4.out.bx.c0
  have d1 := b4.out.bx.c1
  have d2 := b4.out.bx.c2
  have d3 := b4.out.bx.c3
  have d4 := b4.out.l0
  have d5 := b4.out.l1
  have kx := KE.out w4 b4
  go_wp2_with fail
  refine kx.mono ?_
  rintro e w5 ⟨rfl, b5⟩
  clear kx b4
  clear d0 d1 d2 d3 d4 d5
  have ka := KA.out w5 b5
  go_wp2_with fail
  refine ka.mono ?_
  rintro e wz ⟨rfl, bz⟩
  go_wp2_with fail
  go_ret
  exact ⟨rfl, bz.out.bx.below⟩


theorem door_met (os : Os) (args : Array Value) : laidMetH Tryd.prog Rows.pcmPacksRow.laid ((World.doorLaid Tryd.prog 400 os).forCall (fun _ _ => 0) ⟨#[], args, []⟩).memory :=
  laidMetH_of_parts3 (fuel := 8) (laidMet_of_run' 8 (by kernel_rfl) (by kernel_rfl)) (by kernel_rfl) (by kernel_rfl)

set_option maxRecDepth 100000 in
theorem lifted (os : Os) (started : os.Started) (H : Type) (enc : TypeId × Value → H) :
    ReturnsInHanded {} Tryd.checked os 3 .any (fun w args => (Rows.pcmPacksSpec.pre enc Tryd.prog Tryd.f3 [] false w args ∧ laidMetH Tryd.prog Rows.pcmPacksRow.laid w) ∧ sizedMet enc Tryd.prog Tryd.f3 (OpenSpec.ofChange Rows.pcmPacksSpec) false w args)
      (Rows.pcmPacksSpec.post enc Tryd.prog Tryd.f3 false true false false) := by
  refine returnsInHanded_of_change_and (C := Tryd.checked) (X := fun w _ => laidMetH Tryd.prog Rows.pcmPacksRow.laid w) (fun _ _ _ hh h => h.of_heap hh) own started (by kernel_rfl) Tryd.func3
    (ChangeSpec.witness_shaped (enc := enc) (C := Tryd.checked) (os := os) (X := fun w _ => laidMetH Tryd.prog Rows.pcmPacksRow.laid w) false (World.doorLaid Tryd.prog 400 os) #[.agg #[.int .i64 0, .int .i64 0, .int .i64 0, .slice none 0 0], .agg #[.bool false, .bool false]] 8 rfl (World.shaped_of_RefB (by kernel_rfl) (by kernel_rfl)) (by kernel_rfl) (by kernel_rfl) (by kernel_rfl) (door_met os _)) ?_
  intro W base args ds gs before hval0 hW _ hsz0 hL _
  have hval : ∀ (j : Nat) t v, Tryd.f3.params[j]? = some t → args[j]? = some v → Value.okWide Tryd.prog W .any base t v := hval0
  have hsz : (DataW.weightsEach Tryd.prog (Tryd.f3.params.toList ++ Rows.pcmPacksSpec.plain.varTypes Tryd.prog) (ds ++ gs)).all (· ≤ reachBytes) = true := hsz0
  have hW' := hW
  obtain ⟨p, q, hA0, hV, rfl, hfz, hnd⟩ := hW
  have hA : DataW.TrodAll enc Tryd.prog W 0 (fun _ => true) true Tryd.f3.params.toList args.toList ds p := hA0
  rw [Tryd.params3] at hA hval hsz
  obtain ⟨v0, vs0, d0, ds0, p0, q0, hargs, rfl, rfl, h0, r0⟩ := trodAll_cons hA
  obtain ⟨v1, vs1, d1, ds1, p1, q1, rfl, rfl, rfl, h1, r1⟩ := trodAll_cons r0
  obtain ⟨rfl, rfl, rfl⟩ := trodAll_nil r1
  obtain rfl : args = #[v0, v1] := by cases args; simp_all
  obtain ⟨rfl, rfl⟩ := trodVars_none hV
  have hall := List.all_eq_true.1 hsz
  have hw0 : ∀ n ∈ d0.weights Tryd.prog 24, n ≤ reachBytes := fun n hn => by
    have := hall n (List.mem_append.2 (.inl hn))
    exact of_decide_eq_true this
  have k0 := h0
  have lt0 : ∀ x ∈ p0, x.block < W.heap.size := by obtain ⟨m, hm⟩ := k0; exact DataW.trod_lt m _ _ _ hm
  obtain ⟨x0, o0, c0, rfl, hr0, hf0⟩ := open_pcm0 (hval 0 24 v0 rfl rfl) h0 hw0
  have k1 := h1
  have lt1 : ∀ x ∈ p1, x.block < W.heap.size := by obtain ⟨m, hm⟩ := k1; exact DataW.trod_lt m _ _ _ hm
  obtain ⟨g1, u1, rfl, rfl, rfl⟩ := open_layout0 (hval 1 26 v1 rfl rfl) h1
  have hT : Dg.TabsAt W := Dg.tabs_of_laid hL
  clear hA0 hval0
  refine (walk x0 o0 c0 hf0 g1 u1 W hr0 hT).mono fun e W' ⟨he, bel⟩ => ?_
  subst he
  exact ⟨_, rfl, _, _, _, [], _, [], hW', trodAll_mk1 (shut_bool Tryd.underlying4 _), (trodAll_cons_mk (Below.trod laidOut (by kernel_rfl) (of_decide_eq_true (by kernel_rfl)) k0 bel lt0) (trodAll_cons_mk (Below.trod laidOut (by kernel_rfl) (of_decide_eq_true (by kernel_rfl)) k1 bel lt1) trodAll_mk0)), rfl, bel.frame _, fun h => by cases h⟩

theorem said : Rows.PcmPacksSaid :=
  OpenClaim.holds_of_wide 3 Tryd.f3 rfl rfl rfl rfl rfl rfl rfl ⟨rfl, rfl, rfl, rfl, rfl⟩ rfl rfl rfl rfl rfl (by kernel_rfl) Tryd.func3 (by kernel_rfl)
    (of_decide_eq_true (by kernel_rfl)) (by unfold Func.isWrapper; first | (rw [if_pos (by decide +kernel)]; kernel_rfl) | (rw [if_neg (by decide +kernel)]; exact ⟨rfl, rfl⟩))
    (fun os started H enc _ => lifted os started H enc)

/-- No parameter wants a stand-in; the program's own looks are off. -/
theorem plain (f : FuncId) (fn : Func) (hf : Tryd.pinned.checked.prog.funcNamed Rows.pcmPacksRow.func = some f) (hfn : Tryd.pinned.checked.prog.funcs[f]? = some fn) :
    false = Tryd.pinned.checked.prog.looks [] ∧ ∀ (j : Nat) t, fn.params[j]? = some t → Tryd.pinned.checked.prog.wantsStandIn t = false := by
  obtain rfl : f = 3 := Option.some.inj ((show Tryd.prog.funcNamed Rows.pcmPacksRow.func = some 3 by kernel_rfl).symm.trans hf) |>.symm
  obtain rfl : fn = Tryd.f3 := (Option.some.inj (Tryd.func3.symm.trans hfn)).symm
  refine ⟨by kernel_rfl, fun j t ht => ?_⟩
  rw [Tryd.params3] at ht
  have hm := Array.mem_of_getElem? ht
  simp at hm
  rcases hm with rfl | rfl
  · exact (show Tryd.prog.wantsStandIn 24 = false by kernel_rfl)
  · exact (show Tryd.prog.wantsStandIn 26 = false by kernel_rfl)

theorem card : Rows.PcmPacksCardSaid :=
  Claim7.holds_tied_plain_at .later [] _ _ _ _ said (fun _ h => by cases h) (by kernel_rfl) (fun _ h => by cases h) pcmPacks_row_tie rfl ⟨rfl, rfl⟩ (by kernel_rfl) rfl plain (by kernel_rfl)

end Go.Proofs.YtolmijpecomkcaaDoor.pcmPacks
namespace Go.Proofs.YtolmijpecomkcaaDoor
theorem pcmPacks_card : Rows.PcmPacksCardSaid := pcmPacks.card
#print axioms pcmPacks_card
end Go.Proofs.YtolmijpecomkcaaDoor
