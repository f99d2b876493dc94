/-
  For every list of blocks and every text: the law MetaBack answers true. Conditions: the package's table of widths starts as the program's text lays it (a tied card).
-/
import Derived.Test.YtfmpiidnemhijaaDoorQ13args
import Derived.Test.YtfmpiidnemhijaaDoorCards
import Derived.Test.YtfmpiidnemhijaaDoorTie
import Derived.WalkKit
import Derived.ProofKit
import Derived.OpenShut
import Derived.ShutString
import Derived.ChangeOld
import Derived.Below
import Derived.SizedLaws
import Derived.Carry
namespace Go.Proofs.YtfmpiidnemhijaaDoor.metaBack
open Go.ChangeShapes Go.WideShapes Go.ChangeAt Go.RowKit
open Go.ChangeMaps (open_string shut_string)
set_option linter.unusedSimpArgs false
set_option linter.unusedVariables false

theorem own : ownKnob Tryd.prog.godebug = none := by kernel_rfl
theorem laidOut : laidOutB Tryd.prog = true := by kernel_rfl

set_option maxRecDepth 20000 in
set_option maxHeartbeats 3200000 in
theorem walk (l : List Blk) (lo : Option Addr) (lc : Nat) (hls : ∀ b ∈ l, b.body.size ≤ 140737488351232) (hln : l.length ≤ 5864062014634) (hl0 : lo = none → lc = 0) (hlc : l.length ≤ lc) (s : ByteArray) (hs : s.size ≤ 140737488351232) (w : World) (rl : BlksAt w lo l) (hT : WidAt w) :
    Calls Tryd.prog 7 #[.slice lo l.length lc, .string s] w fun e w' => e = .returned (.bool true) ∧ Below w.heap.size w w' := by
  have HW : Hid (WidAt w) := hT
  have KA : Hid (∀ wx, Below w.heap.size w wx → Calls Tryd.prog 12 #[] wx fun e w' => e = .returned (.bool true) ∧ Below wx.heap.size wx w') := fun wx hb => awake_any wx (HW.out.below hb)
  have KP : Hid (∀ wx, Below w.heap.size w wx → Calls Tryd.prog 15 #[.string s] wx fun e w' => PrsE s e w' ∧ Below wx.heap.size wx w') := fun wx hb => parse_any s hs wx (HW.out.below hb)
  have kb := build_any l lo lc w rl hls (by omega) hT
  have HL : Hid (BlksAt w lo l) := rl
  have KQ : Hid (∀ wx, mayS l = true → Below w.heap.size w wx → Calls Tryd.prog 15 #[.string (textOf (layL l) ++ ⟨#[255]⟩)] wx fun e w' => (∃ ao cap, e = .returned (.tuple #[.slice ao l.length cap, .int .i64 ((textOf (layL l)).size : Int), .int .i64 0]) ∧ BlksAt w' ao l) ∧ Below wx.heap.size wx w') := fun wx hm hb => by
    have hz : (layL l).length ≤ 20000000000 := by
      rw [lay_len]
      exact Nat.le_trans (sizL_le l 16777215 fun b hb => (std_mem l 0 false (Bool.and_eq_true_iff.1 hm).1 b hb).2.2.1) (Nat.le_trans (Nat.mul_le_mul_right _ (mayS_mem hm).1) (by decide))
    refine (parse_any _ (by rw [ByteArray.size_append, S2.textOf_size]; show _ + 1 ≤ _; omega) wx (HW.out.below hb)).mono fun e w' h => ?_
    obtain ⟨⟨ao, cap, h1, h2, _⟩, h3⟩ := h
    rw [behind hm] at h1 h2
    exact ⟨⟨ao, cap, by rw [S2.textOf_size]; exact h1, h2⟩, h3⟩
  have KS : Hid (∀ wx ao cap, Below w.heap.size w wx → BlksAt wx ao l → Calls Tryd.prog 17 #[.slice lo l.length lc, .slice ao l.length cap] wx fun e w' => e = .returned (.bool true) ∧ Below wx.heap.size wx w') := fun wx ao cap hb h2 => (same_any l l lo ao lc cap wx (HL.out.below hb) h2 (by omega)).mono fun e w' h => by
    obtain ⟨h3, n, h4⟩ := h
    exact ⟨by rw [h3, sameL_self], by rw [h4]; exact below_drewN (Below.refl _ _) n⟩
  have hz255 : Hid (mayS l = true → (textOf (layL l)).size ≤ 20000000000) := fun hm => by
    rw [S2.textOf_size, lay_len]
    exact Nat.le_trans (sizL_le l 16777215 fun b hb => (std_mem l 0 false (Bool.and_eq_true_iff.1 hm).1 b hb).2.2.1) (Nat.le_trans (Nat.mul_le_mul_right _ (mayS_mem hm).1) (by decide))
  clear hls hT rl
  go_enter Tryd.func7, Tryd.ntmps7
  go_wp2_with fail
  refine kb.mono ?_
  rintro e w1 ⟨hp, hb1⟩
  have HB1 : Hid (Below w.heap.size w w1) := hb1
  clear hb1 kb
  rcases hp with ⟨hm, rfl⟩ | ⟨hm, rfl⟩
  · have KQ2 := KQ.out w1 hm HB1.out
    have hzz := hz255.out hm
    generalize textOf (layL l) = X at *
    clear KQ hz255 hm
    go_wp2_with fail
    refine KQ2.mono ?_
    rintro e w2 ⟨⟨ao, cap, rfl, hao⟩, hb2⟩
    have HB2 : Hid (Below w.heap.size w w2 ∧ BlksAt w2 ao l) := ⟨HB1.out.trans (hb2.mono HB1.out.size), hao⟩
    clear hao hb2 KQ2 HB1
    go_wp2_with fail
    refine (KS.out w2 ao cap HB2.out.1 HB2.out.2).mono ?_
    rintro e wz ⟨rfl, hbz⟩
    have HBz : Hid (Below w.heap.size w wz) := HB2.out.1.trans (hbz.mono HB2.out.1.size)
    clear hbz HB2 KS hzz
    go_wp2_with fail
    refine (KP.out _ HBz.out).mono ?_
    rintro e w3 ⟨hp, hb3⟩
    have HB3 : Hid (Below w.heap.size w w3) := HBz.out.trans (hb3.mono HBz.out.size)
    have HPE : Hid (PrsE s e w3) := hp
    clear hb3 hp HBz KP
    obtain ⟨ao, cap, he, hat, hle, hnc⟩ := HPE.out
    subst he
    have HAT : Hid (BlksAt w3 ao (prsN s).1) := hat
    clear HPE hat
    by_cases h0 : (prsN s).2.2 = 0
    · have hpe : prsN s = ((prsN s).1, (prsN s).2.1, 0) := by rw [← h0]
      obtain ⟨g1, g2, g3⟩ := prsN_again hpe
      have HM : Hid (mayS (prsN s).1 = true) := g1
      have HT : Hid (textOf (layL (prsN s).1) = s.extract 0 (prsN s).2.1) := by
        show _ = _
        rw [← g3, ← S2.textOf_bytesOf (s.extract 0 _), bytesOf_ext, List.drop_zero]
      have hlm := (mayS_mem g1).1
      rw [h0]
      clear hpe h0 g1 g3
      generalize (prsN s).2.1 = n at *
      generalize (prsN s).1 = M at *
      have kb := build_any M ao cap w3 HAT.out (fun b hb => by have := (std_mem M 0 false (Bool.and_eq_true_iff.1 HM.out).1 b hb).2.2.1; omega) (by omega) (HW.out.below HB3.out)
      have hsl := slice_upto s n g2
      have hn1 : (n : Int) ≤ (s.size : Int) := by omega
      clear hlm
      go_wp2_with fail
      refine kb.mono ?_
      rintro e w4 ⟨hp, hb4⟩
      have HB4 : Hid (Below w.heap.size w w4) := HB3.out.trans (hb4.mono HB3.out.size)
      have he : e = .returned (.tuple #[.string (s.extract 0 n), .int .i64 0]) := by
        rcases hp with ⟨_, h⟩ | ⟨h, _⟩
        · rw [← HT.out]; exact h
        · rw [HM.out] at h; cases h
      subst he
      clear hp hb4 kb HT HAT
      have ka := KA.out w4 HB4.out
      generalize s.extract 0 n = X at *
      have hxx : (X.toList == X.toList) = true := by simp
      go_wp2_with fail
      refine ka.mono ?_
      rintro e w5 ⟨rfl, hb5⟩
      have HB5 : Hid (Below w.heap.size w w5) := HB4.out.trans (hb5.mono HB4.out.size)
      clear ka hb5 KA
      go_wp2_with fail
      go_ret
      exact ⟨rfl, HB5.out⟩
    · obtain ⟨g1, g2⟩ := prs_bad s 1025 0 [] false h0
      have g1 : (prsN s).1 = [] := g1
      have g2 : (prsN s).2.1 = 0 := g2
      rw [g1, g2]
      have hb0 : ((prsN s).2.2 != 0) = true := by rw [bne_iff_ne]; exact h0
      generalize (prsN s).2.2 = E at *
      have ka := KA.out w3 HB3.out
      clear g1 g2 h0 HAT hle
      go_wp2_with fail
      refine ka.mono ?_
      rintro e w5 ⟨rfl, hb5⟩
      have HB5 : Hid (Below w.heap.size w w5) := HB3.out.trans (hb5.mono HB3.out.size)
      clear ka hb5 KA
      go_wp2_with fail
      go_ret
      exact ⟨rfl, HB5.out⟩
  · have HBz : Hid (Below w.heap.size w w1) := HB1.out
    clear HB1 KQ KS hz255 hm
    go_wp2_with fail
    refine (KP.out _ HBz.out).mono ?_
    rintro e w3 ⟨hp, hb3⟩
    have HB3 : Hid (Below w.heap.size w w3) := HBz.out.trans (hb3.mono HBz.out.size)
    have HPE : Hid (PrsE s e w3) := hp
    clear hb3 hp HBz KP
    obtain ⟨ao, cap, he, hat, hle, hnc⟩ := HPE.out
    subst he
    have HAT : Hid (BlksAt w3 ao (prsN s).1) := hat
    clear HPE hat
    by_cases h0 : (prsN s).2.2 = 0
    · have hpe : prsN s = ((prsN s).1, (prsN s).2.1, 0) := by rw [← h0]
      obtain ⟨g1, g2, g3⟩ := prsN_again hpe
      have HM : Hid (mayS (prsN s).1 = true) := g1
      have HT : Hid (textOf (layL (prsN s).1) = s.extract 0 (prsN s).2.1) := by
        show _ = _
        rw [← g3, ← S2.textOf_bytesOf (s.extract 0 _), bytesOf_ext, List.drop_zero]
      have hlm := (mayS_mem g1).1
      rw [h0]
      clear hpe h0 g1 g3
      generalize (prsN s).2.1 = n at *
      generalize (prsN s).1 = M at *
      have kb := build_any M ao cap w3 HAT.out (fun b hb => by have := (std_mem M 0 false (Bool.and_eq_true_iff.1 HM.out).1 b hb).2.2.1; omega) (by omega) (HW.out.below HB3.out)
      have hsl := slice_upto s n g2
      have hn1 : (n : Int) ≤ (s.size : Int) := by omega
      clear hlm
      go_wp2_with fail
      refine kb.mono ?_
      rintro e w4 ⟨hp, hb4⟩
      have HB4 : Hid (Below w.heap.size w w4) := HB3.out.trans (hb4.mono HB3.out.size)
      have he : e = .returned (.tuple #[.string (s.extract 0 n), .int .i64 0]) := by
        rcases hp with ⟨_, h⟩ | ⟨h, _⟩
        · rw [← HT.out]; exact h
        · rw [HM.out] at h; cases h
      subst he
      clear hp hb4 kb HT HAT
      have ka := KA.out w4 HB4.out
      generalize s.extract 0 n = X at *
      have hxx : (X.toList == X.toList) = true := by simp
      go_wp2_with fail
      refine ka.mono ?_
      rintro e w5 ⟨rfl, hb5⟩
      have HB5 : Hid (Below w.heap.size w w5) := HB4.out.trans (hb5.mono HB4.out.size)
      clear ka hb5 KA
      go_wp2_with fail
      go_ret
      exact ⟨rfl, HB5.out⟩
    · obtain ⟨g1, g2⟩ := prs_bad s 1025 0 [] false h0
      have g1 : (prsN s).1 = [] := g1
      have g2 : (prsN s).2.1 = 0 := g2
      rw [g1, g2]
      have hb0 : ((prsN s).2.2 != 0) = true := by rw [bne_iff_ne]; exact h0
      generalize (prsN s).2.2 = E at *
      have ka := KA.out w3 HB3.out
      clear g1 g2 h0 HAT hle
      go_wp2_with fail
      refine ka.mono ?_
      rintro e w5 ⟨rfl, hb5⟩
      have HB5 : Hid (Below w.heap.size w w5) := HB3.out.trans (hb5.mono HB3.out.size)
      clear ka hb5 KA
      go_wp2_with fail
      go_ret
      exact ⟨rfl, HB5.out⟩


theorem door_met (os : Os) (args : Array Value) : laidMetH Tryd.prog Rows.metaBackRow.laid ((World.doorLaid Tryd.prog 400 os).forCall (fun _ _ => 0) ⟨#[], args, []⟩).memory :=
  laidMetH_of_parts3 (fuel := 8) (laidMet_of_run' 8 (by kernel_rfl) (by kernel_rfl)) (by kernel_rfl) (by kernel_rfl)

set_option maxRecDepth 100000 in
theorem lifted (os : Os) (started : os.Started) (H : Type) (enc : TypeId × Value → H) :
    ReturnsInHanded {} Tryd.checked os 7 .any (fun w args => (Rows.metaBackSpec.pre enc Tryd.prog Tryd.f7 [] false w args ∧ laidMetH Tryd.prog Rows.metaBackRow.laid w) ∧ sizedMet enc Tryd.prog Tryd.f7 (OpenSpec.ofChange Rows.metaBackSpec) false w args)
      (Rows.metaBackSpec.post enc Tryd.prog Tryd.f7 false true false false) := by
  refine returnsInHanded_of_change_and (C := Tryd.checked) (X := fun w _ => laidMetH Tryd.prog Rows.metaBackRow.laid w) (fun _ _ _ hh h => h.of_heap hh) own started (by kernel_rfl) Tryd.func7
    (ChangeSpec.witness_shaped (enc := enc) (C := Tryd.checked) (os := os) (X := fun w _ => laidMetH Tryd.prog Rows.metaBackRow.laid w) false (World.doorLaid Tryd.prog 400 os) #[.slice none 0 0, .string ByteArray.empty] 8 rfl (World.shaped_of_RefB (by kernel_rfl) (by kernel_rfl)) (by kernel_rfl) (by kernel_rfl) (by kernel_rfl) (door_met os _)) ?_
  intro W base args ds gs before hval0 hW _ hsz0 hL _
  have hval : ∀ (j : Nat) t v, Tryd.f7.params[j]? = some t → args[j]? = some v → Value.okWide Tryd.prog W .any base t v := hval0
  have hsz : (DataW.weightsEach Tryd.prog (Tryd.f7.params.toList ++ Rows.metaBackSpec.plain.varTypes Tryd.prog) (ds ++ gs)).all (· ≤ reachBytes) = true := hsz0
  have hW' := hW
  obtain ⟨p, q, hA0, hV, rfl, hfz, hnd⟩ := hW
  have hA : DataW.TrodAll enc Tryd.prog W 0 (fun _ => true) true Tryd.f7.params.toList args.toList ds p := hA0
  rw [Tryd.params7] at hA hval hsz
  obtain ⟨v0, vs0, d0, ds0, p0, q0, hargs, rfl, rfl, h0, r0⟩ := trodAll_cons hA
  obtain ⟨v1, vs1, d1, ds1, p1, q1, rfl, rfl, rfl, h1, r1⟩ := trodAll_cons r0
  obtain ⟨rfl, rfl, rfl⟩ := trodAll_nil r1
  obtain rfl : args = #[v0, v1] := by cases args; simp_all
  obtain ⟨rfl, rfl⟩ := trodVars_none hV
  have hall := List.all_eq_true.1 hsz
  have hw0 : ∀ n ∈ d0.weights Tryd.prog 40, n ≤ reachBytes := fun n hn => by
    have := hall n (List.mem_append.2 (.inl hn))
    exact of_decide_eq_true this
  have k0 := h0
  have lt0 : ∀ x ∈ p0, x.block < W.heap.size := by obtain ⟨m, hm⟩ := k0; exact DataW.trod_lt m _ _ _ hm
  obtain ⟨o0, n0, c0, rfl⟩ := okWide_slice Tryd.underlying40 (hval 0 40 v0 rfl rfl)
  obtain ⟨x0, hl0, hr0, hz0, hs0, hn0, hc0, _⟩ := open_blocks h0 hw0
  subst hl0
  obtain ⟨x1, rfl, rfl, rfl, i1⟩ := open_string Tryd.underlying9 (hval 1 9 v1 rfl rfl) h1
  have hq1 := sized_string hsz (j := 1) (t := 9) rfl rfl
  have hz1 : x1.size ≤ 140737488351232 := by
    have e : x1.data.toList.length = x1.size := by rw [Array.length_toList]; rfl
    rw [e] at hq1
    simp only [reachBytes] at hq1
    omega
  have hT : WidAt W := wid_of_laid hL
  clear hA0 hval0
  refine (walk x0 o0 c0 hs0 hn0 hz0 hc0 x1 hz1 W hr0 hT).mono fun e W' ⟨he, bel⟩ => ?_
  subst he
  exact ⟨_, rfl, _, _, _, [], _, [], hW', trodAll_mk1 (shut_bool Tryd.underlying4 _), (trodAll_cons_mk (Below.trod laidOut (by kernel_rfl) (of_decide_eq_true (by kernel_rfl)) k0 bel lt0) (trodAll_cons_mk (shut_string Tryd.underlying9 i1) trodAll_mk0)), rfl, bel.frame _, fun h => by cases h⟩

theorem said : Rows.MetaBackSaid :=
  OpenClaim.holds_of_wide 7 Tryd.f7 rfl rfl rfl rfl rfl rfl rfl ⟨rfl, rfl, rfl, rfl, rfl⟩ rfl rfl rfl rfl rfl (by kernel_rfl) Tryd.func7 (by kernel_rfl)
    (of_decide_eq_true (by kernel_rfl)) (by unfold Func.isWrapper; first | (rw [if_pos (by decide +kernel)]; kernel_rfl) | (rw [if_neg (by decide +kernel)]; exact ⟨rfl, rfl⟩))
    (fun os started H enc _ => lifted os started H enc)

/-- No parameter wants a stand-in; the program's own looks are off. -/
theorem plain (f : FuncId) (fn : Func) (hf : Tryd.pinned.checked.prog.funcNamed Rows.metaBackRow.func = some f) (hfn : Tryd.pinned.checked.prog.funcs[f]? = some fn) :
    false = Tryd.pinned.checked.prog.looks [] ∧ ∀ (j : Nat) t, fn.params[j]? = some t → Tryd.pinned.checked.prog.wantsStandIn t = false := by
  obtain rfl : f = 7 := Option.some.inj ((show Tryd.prog.funcNamed Rows.metaBackRow.func = some 7 by kernel_rfl).symm.trans hf) |>.symm
  obtain rfl : fn = Tryd.f7 := (Option.some.inj (Tryd.func7.symm.trans hfn)).symm
  refine ⟨by kernel_rfl, fun j t ht => ?_⟩
  rw [Tryd.params7] at ht
  have hm := Array.mem_of_getElem? ht
  simp at hm
  rcases hm with rfl | rfl
  · exact (show Tryd.prog.wantsStandIn 40 = false by kernel_rfl)
  · exact (show Tryd.prog.wantsStandIn 9 = false by kernel_rfl)

theorem card : Rows.MetaBackCardSaid :=
  Claim7.holds_tied_plain_at .later [] _ _ _ _ said (fun _ h => by cases h) (by kernel_rfl) (fun _ h => by cases h) metaBack_row_tie rfl ⟨rfl, rfl⟩ (by kernel_rfl) rfl plain (by kernel_rfl)

end Go.Proofs.YtfmpiidnemhijaaDoor.metaBack
namespace Go.Proofs.YtfmpiidnemhijaaDoor
theorem metaBack_card : Rows.MetaBackCardSaid := metaBack.card
#print axioms metaBack_card
end Go.Proofs.YtfmpiidnemhijaaDoor
