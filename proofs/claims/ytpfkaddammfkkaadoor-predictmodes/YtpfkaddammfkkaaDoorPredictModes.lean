/-
  PredictModes: two channels come back from each mode as they were. No condition.
-/
import Derived.Test.YtpfkaddammfkkaaDoorQ9awake
import Derived.Test.YtpfkaddammfkkaaDoorQ9shift
import Derived.Test.YtpfkaddammfkkaaDoorQ9laid
import Derived.Test.YtpfkaddammfkkaaDoorP9args
import Derived.Test.YtpfkaddammfkkaaDoorR9unst
import Derived.Test.YtpfkaddammfkkaaDoorR9ster
import Derived.Test.YtpfkaddammfkkaaDoorCards
import Derived.Test.YtpfkaddammfkkaaDoorTie
import Derived.WalkKit
import Derived.ProofKit
import Derived.OpenShut
import Derived.ShutString
import Derived.ChangeOld
import Derived.Below
import Derived.SizedLaws
import Derived.Carry
namespace Go.Proofs.YtpfkaddammfkkaaDoor.predictModes
open Go.ChangeShapes Go.WideShapes Go.ChangeAt Go.RowKit
open Go.ChangeMaps (open_string shut_string)
set_option linter.unusedSimpArgs false
set_option linter.unusedVariables false

theorem own : ownKnob Tryd.prog.godebug = none := by kernel_rfl
theorem laidOut : laidOutB Tryd.prog = true := by kernel_rfl

theorem ret3_no {w w' : World} {e : Ending} (h : Ret3 none w e w') : ∃ xa xc ya yc, e = .returned (.tuple #[.slice xa 0 xc, .slice ya 0 yc, .int .i64 1]) ∧ Below w.heap.size w w' := by
  obtain ⟨xa, xc, ya, yc, h1, _, _, h4⟩ := h; exact ⟨xa, xc, ya, yc, h1, h4⟩
theorem ret3_yes {w w' : World} {e : Ending} {X Y : List Int} (h : Ret3 (some (X, Y)) w e w') : ∃ xa xc ya yc, e = .returned (.tuple #[.slice xa X.length xc, .slice ya Y.length yc, .int .i64 0]) ∧ IntsAt w' xa X ∧ IntsAt w' ya Y ∧ Below w.heap.size w w' := h
theorem zipN_inB (f : Int → Int → Int) (a b : List Int) (M K : Int) (hM : 0 ≤ M) (ha : inB a M = true) (hb : inB b M = true) (hf : ∀ p q, -M ≤ p ∧ p ≤ M → -M ≤ q ∧ q ≤ M → -K ≤ f p q ∧ f p q ≤ K) (n : Nat) : inB (zipN f a b n) K = true := by
  rw [inB_iff]
  induction n with
  | zero => intro x hx; cases hx
  | succ n ih =>
    intro x hx
    rcases List.mem_append.1 hx with hx | hx
    · exact ih x hx
    · rw [List.mem_singleton] at hx; rw [hx]; exact hf _ _ (inB_at a M ha hM n) (inB_at b M hb hM n)
theorem modes_back {m : Int} {a b X Y : List Int} (h : stR m a b = some (X, Y)) : ustR m X Y = some (a, b) := by
  unfold stR at h
  split at h
  · rename_i hc
    obtain ⟨⟨m0, m3⟩, hl, ha, hb⟩ := hc
    simp only [Option.some.injEq, Prod.mk.injEq] at h
    obtain ⟨rfl, rfl⟩ := h
    have hbk := stereo_back m.toNat a b hl
    have g1 : inB (zipN (stP m.toNat) a b a.length) 4398046511104 = true := zipN_inB _ a b 1099511627776 _ (by decide) ha hb (fun p q h1 h2 => by unfold stP; split; omega; split <;> omega) _
    have g2 : inB (zipN (stQ m.toNat) a b a.length) 4398046511104 = true := zipN_inB _ a b 1099511627776 _ (by decide) ha hb (fun p q h1 h2 => by unfold stQ; split; omega; split <;> omega) _
    unfold ustR
    rw [if_pos ⟨⟨m0, m3⟩, by rw [zipN_len, zipN_len], g1, g2⟩, zipN_len, hbk.1, hbk.2]
  · cases h

set_option maxRecDepth 20000 in
set_option maxHeartbeats 3200000 in
theorem walk (mode : Int) (mode1 : -9223372036854775808 ≤ mode) (mode2 : mode ≤ 9223372036854775807) (a : List Int) (ao : Option Addr) (ac : Nat) (hac : a.length ≤ ac) (ha0 : ao = none → ac = 0) (ha9 : a.length ≤ 17592186043904) (b : List Int) (bo : Option Addr) (bc : Nat) (hbc : b.length ≤ bc) (hb0 : bo = none → bc = 0) (hb9 : b.length ≤ 17592186043904) (w : World) (ra : IntsAt w ao a) (rb : IntsAt w bo b) (hT : Tz w) :
    Calls Tryd.prog 8 #[.int .i64 mode, .slice ao a.length ac, .slice bo b.length bc] w fun e w' => e = .returned (.bool true) ∧ Below w.heap.size w w' := by

  have KAw : Hid (∀ wx, Below w.heap.size w wx → Calls Tryd.prog 14 #[] wx fun e w' => e = .returned (.bool true) ∧ Below wx.heap.size wx w') := fun wx hb => awake_spec wx (hT.below hb)
  have HT0 : Hid (Tz w) := hT
  clear hT
  have HB0 : Hid (Below w.heap.size w w) := Below.refl _ _
  have Ia : Hid (IntsAt w ao a) := ra
  clear ra
  have Ib : Hid (IntsAt w bo b) := rb
  clear rb
  cases hS : stR mode a b with
  | none =>
    have kc := qstereo_spec mode a b ao bo ac bc w Ia.out Ib.out
    rw [hS] at kc
    clear hS
    go_enter Tryd.func8, Tryd.ntmps8
    go_wp2_with fail
    refine kc.mono ?_
    intro e v1 hret
    obtain ⟨pa, pc, qa, qc, rfl, hb⟩ := ret3_no hret
    have HBn : Hid (Below w.heap.size w v1) := HB0.out.trans (hb.mono HB0.out.size)
    clear HB0
    have HB0 : Hid (Below w.heap.size w v1) := HBn.out
    clear HBn
    have Ian : Hid (IntsAt v1 ao a) := Ia.out.below hb
    clear Ia
    have Ia : Hid (IntsAt v1 ao a) := Ian.out
    clear Ian
    have Ibn : Hid (IntsAt v1 bo b) := Ib.out.below hb
    clear Ib
    have Ib : Hid (IntsAt v1 bo b) := Ibn.out
    clear Ibn

    clear hb kc hret
    go_wp2_with fail
    refine (KAw.out v1 HB0.out).mono ?_
    rintro e vz ⟨rfl, hb⟩
    have HBn : Hid (Below w.heap.size w vz) := HB0.out.trans (hb.mono HB0.out.size)
    clear HB0
    have HB0 : Hid (Below w.heap.size w vz) := HBn.out
    clear HBn
    have Ian : Hid (IntsAt vz ao a) := Ia.out.below hb
    clear Ia
    have Ia : Hid (IntsAt vz ao a) := Ian.out
    clear Ian
    have Ibn : Hid (IntsAt vz bo b) := Ib.out.below hb
    clear Ib
    have Ib : Hid (IntsAt vz bo b) := Ibn.out
    clear Ibn
    clear hb
    go_wp2_with fail
    go_ret
    exact ⟨rfl, HB0.out⟩
  | some pr =>
    obtain ⟨X, Y⟩ := pr
    have kc := qstereo_spec mode a b ao bo ac bc w Ia.out Ib.out
    have HU : Hid (ustR mode X Y = some (a, b)) := modes_back hS
    rw [hS] at kc
    clear hS
    go_enter Tryd.func8, Tryd.ntmps8
    go_wp2_with fail
    refine kc.mono ?_
    intro e v1 hret
    obtain ⟨pa, pc, qa, qc, rfl, h1, h2, hb⟩ := ret3_yes hret
    clear hret
    have Ip : Hid (IntsAt v1 pa X) := h1
    have Iq : Hid (IntsAt v1 qa Y) := h2
    have HBn : Hid (Below w.heap.size w v1) := HB0.out.trans (hb.mono HB0.out.size)
    clear HB0
    have HB0 : Hid (Below w.heap.size w v1) := HBn.out
    clear HBn
    have Ian : Hid (IntsAt v1 ao a) := Ia.out.below hb
    clear Ia
    have Ia : Hid (IntsAt v1 ao a) := Ian.out
    clear Ian
    have Ibn : Hid (IntsAt v1 bo b) := Ib.out.below hb
    clear Ib
    have Ib : Hid (IntsAt v1 bo b) := Ibn.out
    clear Ibn

    clear hb kc h1 h2
    have kc := qunstereo_spec mode X Y pa qa pc qc v1 Ip.out Iq.out
    rw [HU.out] at kc
    go_wp2_with fail
    refine kc.mono ?_
    intro e v2 hret
    obtain ⟨ra, rc, sa, sc, rfl, h1, h2, hb⟩ := ret3_yes hret
    clear hret
    have Ir : Hid (IntsAt v2 ra a) := h1
    have Is : Hid (IntsAt v2 sa b) := h2
    have HBn : Hid (Below w.heap.size w v2) := HB0.out.trans (hb.mono HB0.out.size)
    clear HB0
    have HB0 : Hid (Below w.heap.size w v2) := HBn.out
    clear HBn
    have Ian : Hid (IntsAt v2 ao a) := Ia.out.below hb
    clear Ia
    have Ia : Hid (IntsAt v2 ao a) := Ian.out
    clear Ian
    have Ibn : Hid (IntsAt v2 bo b) := Ib.out.below hb
    clear Ib
    have Ib : Hid (IntsAt v2 bo b) := Ibn.out
    clear Ibn

    clear hb kc h1 h2
    go_wp2_with fail
    refine (same_same a _ _ rc ac v2 Ir.out Ia.out).mono ?_
    rintro e v6 ⟨rfl, nn, hq⟩
    have hb : Below v2.heap.size v2 v6 := by rw [hq]; exact below_drewN _ _
    clear hq
    have HBn : Hid (Below w.heap.size w v6) := HB0.out.trans (hb.mono HB0.out.size)
    clear HB0
    have HB0 : Hid (Below w.heap.size w v6) := HBn.out
    clear HBn
    have Ian : Hid (IntsAt v6 ao a) := Ia.out.below hb
    clear Ia
    have Ia : Hid (IntsAt v6 ao a) := Ian.out
    clear Ian
    have Ibn : Hid (IntsAt v6 bo b) := Ib.out.below hb
    clear Ib
    have Ib : Hid (IntsAt v6 bo b) := Ibn.out
    clear Ibn
    have Irn : Hid (IntsAt v6 ra a) := Ir.out.below hb
    clear Ir
    have Ir : Hid (IntsAt v6 ra a) := Irn.out
    clear Irn
    have Isn : Hid (IntsAt v6 sa b) := Is.out.below hb
    clear Is
    have Is : Hid (IntsAt v6 sa b) := Isn.out
    clear Isn
    clear hb
    go_wp2_with fail
    refine (same_same b _ _ sc bc v6 Is.out Ib.out).mono ?_
    rintro e v7 ⟨rfl, nn, hq⟩
    have hb : Below v6.heap.size v6 v7 := by rw [hq]; exact below_drewN _ _
    clear hq
    have HBn : Hid (Below w.heap.size w v7) := HB0.out.trans (hb.mono HB0.out.size)
    clear HB0
    have HB0 : Hid (Below w.heap.size w v7) := HBn.out
    clear HBn
    have Ian : Hid (IntsAt v7 ao a) := Ia.out.below hb
    clear Ia
    have Ia : Hid (IntsAt v7 ao a) := Ian.out
    clear Ian
    have Ibn : Hid (IntsAt v7 bo b) := Ib.out.below hb
    clear Ib
    have Ib : Hid (IntsAt v7 bo b) := Ibn.out
    clear Ibn
    have Irn : Hid (IntsAt v7 ra a) := Ir.out.below hb
    clear Ir
    have Ir : Hid (IntsAt v7 ra a) := Irn.out
    clear Irn
    have Isn : Hid (IntsAt v7 sa b) := Is.out.below hb
    clear Is
    have Is : Hid (IntsAt v7 sa b) := Isn.out
    clear Isn
    clear hb
    go_wp2_with fail
    refine (KAw.out v7 HB0.out).mono ?_
    rintro e vz ⟨rfl, hb⟩
    have HBn : Hid (Below w.heap.size w vz) := HB0.out.trans (hb.mono HB0.out.size)
    clear HB0
    have HB0 : Hid (Below w.heap.size w vz) := HBn.out
    clear HBn
    have Ian : Hid (IntsAt vz ao a) := Ia.out.below hb
    clear Ia
    have Ia : Hid (IntsAt vz ao a) := Ian.out
    clear Ian
    have Ibn : Hid (IntsAt vz bo b) := Ib.out.below hb
    clear Ib
    have Ib : Hid (IntsAt vz bo b) := Ibn.out
    clear Ibn
    have Irn : Hid (IntsAt vz ra a) := Ir.out.below hb
    clear Ir
    have Ir : Hid (IntsAt vz ra a) := Irn.out
    clear Irn
    have Isn : Hid (IntsAt vz sa b) := Is.out.below hb
    clear Is
    have Is : Hid (IntsAt vz sa b) := Isn.out
    clear Isn
    clear hb
    go_wp2_with fail
    go_ret
    exact ⟨rfl, HB0.out⟩


theorem door_met (os : Os) (args : Array Value) : laidMetH Tryd.prog Rows.predictModesRow.laid ((World.doorLaid Tryd.prog 400 os).forCall (fun _ _ => 0) ⟨#[], args, []⟩).memory :=
  laidMetH_of_parts3 (fuel := 8) (laidMet_of_run' 8 (by kernel_rfl) (by kernel_rfl)) (by kernel_rfl) (by kernel_rfl)

set_option maxRecDepth 100000 in
theorem lifted (os : Os) (started : os.Started) (H : Type) (enc : TypeId × Value → H) :
    ReturnsInHanded {} Tryd.checked os 8 .any (fun w args => (Rows.predictModesSpec.pre enc Tryd.prog Tryd.f8 [] false w args ∧ laidMetH Tryd.prog Rows.predictModesRow.laid w) ∧ sizedMet enc Tryd.prog Tryd.f8 (OpenSpec.ofChange Rows.predictModesSpec) false w args)
      (Rows.predictModesSpec.post enc Tryd.prog Tryd.f8 false true false false) := by
  refine returnsInHanded_of_change_and (C := Tryd.checked) (X := fun w _ => laidMetH Tryd.prog Rows.predictModesRow.laid w) (fun _ _ _ hh h => h.of_heap hh) own started (by kernel_rfl) Tryd.func8
    (ChangeSpec.witness_shaped (enc := enc) (C := Tryd.checked) (os := os) (X := fun w _ => laidMetH Tryd.prog Rows.predictModesRow.laid w) false (World.doorLaid Tryd.prog 400 os) #[.int .i64 0, .slice none 0 0, .slice none 0 0] 8 rfl (World.shaped_of_RefB (by kernel_rfl) (by kernel_rfl)) (by kernel_rfl) (by kernel_rfl) (by kernel_rfl) (door_met os _)) ?_
  intro W base args ds gs before hval0 hW _ hsz0 hL _
  have hval : ∀ (j : Nat) t v, Tryd.f8.params[j]? = some t → args[j]? = some v → Value.okWide Tryd.prog W .any base t v := hval0
  have hsz : (DataW.weightsEach Tryd.prog (Tryd.f8.params.toList ++ Rows.predictModesSpec.plain.varTypes Tryd.prog) (ds ++ gs)).all (· ≤ reachBytes) = true := hsz0
  have hW' := hW
  obtain ⟨p, q, hA0, hV, rfl, hfz, hnd⟩ := hW
  have hA : DataW.TrodAll enc Tryd.prog W 0 (fun _ => true) true Tryd.f8.params.toList args.toList ds p := hA0
  rw [Tryd.params8] at hA hval hsz
  obtain ⟨v0, vs0, d0, ds0, p0, q0, hargs, rfl, rfl, h0, r0⟩ := trodAll_cons hA
  obtain ⟨v1, vs1, d1, ds1, p1, q1, rfl, rfl, rfl, h1, r1⟩ := trodAll_cons r0
  obtain ⟨v2, vs2, d2, ds2, p2, q2, rfl, rfl, rfl, h2, r2⟩ := trodAll_cons r1
  obtain ⟨rfl, rfl, rfl⟩ := trodAll_nil r2
  obtain rfl : args = #[v0, v1, v2] := by cases args; simp_all
  obtain ⟨rfl, rfl⟩ := trodVars_none hV
  have hall := List.all_eq_true.1 hsz
  obtain ⟨x0, rfl, rfl, rfl, i0⟩ := open_int Tryd.underlying3 (hval 0 3 v0 rfl rfl) h0
  have ib0 := bounds_i64 i0
  have hw1 : ∀ n ∈ d1.weights Tryd.prog 22, n ≤ reachBytes := fun n hn => by
    have := hall n (List.mem_append.2 (.inr (List.mem_append.2 (.inl hn))))
    exact of_decide_eq_true this
  have k1 := h1
  have lt1 : ∀ x ∈ p1, x.block < W.heap.size := by obtain ⟨m, hm⟩ := k1; exact DataW.trod_lt m _ _ _ hm
  obtain ⟨o1, c1, x1, rfl, hr1, hc1, hn1, hm1⟩ := open_list (hval 1 22 v1 rfl rfl) h1 hw1
  have hw2 : ∀ n ∈ d2.weights Tryd.prog 22, n ≤ reachBytes := fun n hn => by
    have := hall n (List.mem_append.2 (.inr (List.mem_append.2 (.inr (List.mem_append.2 (.inl hn))))))
    exact of_decide_eq_true this
  have k2 := h2
  have lt2 : ∀ x ∈ p2, x.block < W.heap.size := by obtain ⟨m, hm⟩ := k2; exact DataW.trod_lt m _ _ _ hm
  obtain ⟨o2, c2, x2, rfl, hr2, hc2, hn2, hm2⟩ := open_list (hval 2 22 v2 rfl rfl) h2 hw2
  have hT : Tz W := tz_of_laid hL
  clear hA0 hval0
  refine (walk x0 ib0.1 ib0.2 x1 o1 c1 hc1 hn1 hm1 x2 o2 c2 hc2 hn2 hm2 W hr1 hr2 hT).mono fun e W' ⟨he, bel⟩ => ?_
  subst he
  exact ⟨_, rfl, _, _, _, [], _, [], hW', trodAll_mk1 (shut_bool Tryd.underlying4 _), (trodAll_cons_mk (shut_int Tryd.underlying3 i0) (trodAll_cons_mk (Below.trod laidOut (by kernel_rfl) (of_decide_eq_true (by kernel_rfl)) k1 bel lt1) (trodAll_cons_mk (Below.trod laidOut (by kernel_rfl) (of_decide_eq_true (by kernel_rfl)) k2 bel lt2) trodAll_mk0))), rfl, bel.frame _, fun h => by cases h⟩

theorem said : Rows.PredictModesSaid :=
  OpenClaim.holds_of_wide 8 Tryd.f8 rfl rfl rfl rfl rfl rfl rfl ⟨rfl, rfl, rfl, rfl, rfl⟩ rfl rfl rfl rfl rfl (by kernel_rfl) Tryd.func8 (by kernel_rfl)
    (of_decide_eq_true (by kernel_rfl)) (by unfold Func.isWrapper; first | (rw [if_pos (by decide +kernel)]; kernel_rfl) | (rw [if_neg (by decide +kernel)]; exact ⟨rfl, rfl⟩))
    (fun os started H enc _ => lifted os started H enc)

/-- No parameter wants a stand-in; the program's own looks are off. -/
theorem plain (f : FuncId) (fn : Func) (hf : Tryd.pinned.checked.prog.funcNamed Rows.predictModesRow.func = some f) (hfn : Tryd.pinned.checked.prog.funcs[f]? = some fn) :
    false = Tryd.pinned.checked.prog.looks [] ∧ ∀ (j : Nat) t, fn.params[j]? = some t → Tryd.pinned.checked.prog.wantsStandIn t = false := by
  obtain rfl : f = 8 := Option.some.inj ((show Tryd.prog.funcNamed Rows.predictModesRow.func = some 8 by kernel_rfl).symm.trans hf) |>.symm
  obtain rfl : fn = Tryd.f8 := (Option.some.inj (Tryd.func8.symm.trans hfn)).symm
  refine ⟨by kernel_rfl, fun j t ht => ?_⟩
  rw [Tryd.params8] at ht
  have hm := Array.mem_of_getElem? ht
  simp at hm
  rcases hm with rfl | rfl
  · exact (show Tryd.prog.wantsStandIn 3 = false by kernel_rfl)
  · exact (show Tryd.prog.wantsStandIn 22 = false by kernel_rfl)

theorem card : Rows.PredictModesCardSaid :=
  Claim7.holds_tied_plain_at .later [] _ _ _ _ said (fun _ h => by cases h) (by kernel_rfl) (fun _ h => by cases h) predictModes_row_tie rfl ⟨rfl, rfl⟩ (by kernel_rfl) rfl plain (by kernel_rfl)

end Go.Proofs.YtpfkaddammfkkaaDoor.predictModes
namespace Go.Proofs.YtpfkaddammfkkaaDoor
theorem predictModes_card : Rows.PredictModesCardSaid := predictModes.card
#print axioms predictModes_card
end Go.Proofs.YtpfkaddammfkkaaDoor
