/-
  For every text and every StreamInfo: the law MetaInfos answers true. Conditions: the package's table of widths starts as the program's text lays it (a tied card).
-/
import Derived.Test.YtfmpiidnemhijaaDoorQ13args
import Derived.Test.YtfmpiidnemhijaaDoorR13lay
import Derived.Test.YtfmpiidnemhijaaDoorCards
import Derived.Test.YtfmpiidnemhijaaDoorTie
import Derived.WalkKit
import Derived.ProofKit
import Derived.OpenShut
import Derived.ShutString
import Derived.ChangeOld
import Derived.Below
import Derived.SizedLaws
import Derived.Carry
namespace Go.Proofs.YtfmpiidnemhijaaDoor.metaInfos
open Go.ChangeShapes Go.WideShapes Go.ChangeAt Go.RowKit
open Go.ChangeMaps (open_string shut_string)
set_option linter.unusedSimpArgs false
set_option linter.unusedVariables false

theorem own : ownKnob Tryd.prog.godebug = none := by kernel_rfl
theorem laidOut : laidOutB Tryd.prog = true := by kernel_rfl

set_option maxRecDepth 20000 in
set_option maxHeartbeats 3200000 in
theorem walk (s : ByteArray) (hs : s.size ≤ 140737488351232) (i : Sti) (hif : IFit i) (w : World) (hT : WidAt w) :
    Calls Tryd.prog 3 #[.string s, stiV i] w fun e w' => e = .returned (.bool true) ∧ Below w.heap.size w w' := by
  have HW : Hid (WidAt w) := hT
  have KA : Hid (∀ wx, Below w.heap.size w wx → Calls Tryd.prog 12 #[] wx fun e w' => e = .returned (.bool true) ∧ Below wx.heap.size wx w') := fun wx hb => awake_any wx (HW.out.below hb)
  have KI : Hid (∀ wx, Below w.heap.size w wx → Calls Tryd.prog 8 #[.string s] wx fun e w' => e = .returned (.tuple #[stiV (infR s), .int .i64 (infE s)]) ∧ Below wx.heap.size wx w') := fun wx hb => info_any s hs wx (HW.out.below hb)
  have KX : Hid (∀ wx, Calls Tryd.prog 9 #[.string s] wx fun e w' => e = .returned (.tuple #[stiV (infR s), .int .i64 (infE s)]) ∧ Below wx.heap.size wx w') := fun wx => xinfo_any s hs wx
  have KL : Hid (∀ wx, Below w.heap.size w wx → Calls Tryd.prog 10 #[stiV i] wx fun e w' => LayE i e ∧ Below wx.heap.size wx w') := fun wx hb => layInfo_any i hif wx (HW.out.below hb)
  have KM : Hid (∀ wx, Calls Tryd.prog 11 #[stiV i] wx fun e w' => LayE i e ∧ Below wx.heap.size wx w') := fun wx => xlayInfo_any i hif wx
  have hlz : (numT i ++ i.dg).size ≤ 140737488351250 := by
    have := hif.dg
    rw [ByteArray.size_append, numT_size]
    omega
  have HB0 : Hid ((w.alloc (.cells (stiC i) 23)).heap[w.heap.size]? = some (.cells (stiC i) 23 (0, 0)) ∧ Below w.heap.size w (w.alloc (.cells (stiC i) 23))) := ⟨heap_alloc_new _ _, (Below.refl _ _).alloc (Nat.le_refl _) _⟩
  have HEQ : Hid (∀ wx, (binOp .eql 23 (stiV (infR s)) (stiV (infR s))).run Tryd.prog wx = .ok (.bool true) wx) := beq_sti_self (infR s)
  have ki := KI.out _ HB0.out.2
  clear hT hs hif KI
  go_enter Tryd.func3, Tryd.ntmps3
  go_wp2_with fail
  refine ki.mono ?_
  rintro e w1 ⟨rfl, hb1⟩
  have HZ1 : Hid (w1.heap[w.heap.size]? = some (.cells (stiC i) 23 (0, 0)) ∧ Below w.heap.size w w1) := ⟨by rw [hb1.block _ (lt_of_block HB0.out.1)]; exact HB0.out.1, HB0.out.2.trans (hb1.mono HB0.out.2.size)⟩
  clear hb1 ki HB0
  generalize hR : infR s = R at *
  generalize hE : infE s = E at *
  have heq : ∀ wx, (binOp .eql 23 (.agg #[.int .i64 R.mn, .int .i64 R.mx, .int .i64 R.mf, .int .i64 R.xf, .int .i64 R.rt, .int .i64 R.ch, .int .i64 R.wd, .int .i64 R.sm, .string R.dg]) (.agg #[.int .i64 R.mn, .int .i64 R.mx, .int .i64 R.mf, .int .i64 R.xf, .int .i64 R.rt, .int .i64 R.ch, .int .i64 R.wd, .int .i64 R.sm, .string R.dg])).run Tryd.prog wx = .ok (.bool true) wx := HEQ.out
  have bE : (E == E) = true := by simp
  clear hR hE
  go_wp2_with fail
  generalize hwa : World.alloc w1 _ = wa
  obtain ⟨g1, hg1⟩ : ∃ g, g = w1.heap.size := ⟨_, rfl⟩
  have HZA : Hid (wa.heap[g1]? = some (.cells (stiC R) 23 (0, 0)) ∧ wa.heap[w.heap.size]? = some (.cells (stiC i) 23 (0, 0)) ∧ Below w.heap.size w wa) := by
    have hb : Below w1.heap.size w1 wa := by rw [← hwa]; exact (Below.refl _ _).alloc (Nat.le_refl _) _
    exact ⟨by rw [← hwa, hg1]; exact heap_alloc_new _ _, by rw [hb.block _ (lt_of_block HZ1.out.1)]; exact HZ1.out.1, HZ1.out.2.trans (hb.mono HZ1.out.2.size)⟩
  rw [← hg1]
  clear hwa hg1 HZ1
  have kx := KX.out wa
  clear KX
  try go_wp2_with fail
  refine kx.mono ?_
  rintro e w2 ⟨rfl, hb2⟩
  have HZ2 : Hid (w2.heap[g1]? = some (.cells (stiC R) 23 (0, 0)) ∧ w2.heap[w.heap.size]? = some (.cells (stiC i) 23 (0, 0)) ∧ Below w.heap.size w w2) := ⟨by rw [hb2.block _ (lt_of_block HZA.out.1)]; exact HZA.out.1, by rw [hb2.block _ (lt_of_block HZA.out.2.1)]; exact HZA.out.2.1, HZA.out.2.2.trans (hb2.mono HZA.out.2.2.size)⟩
  clear hb2 HZA kx
  have HN2 : Hid (Below w2.heap.size w2 (w2.alloc (.cells (stiC R) 23)) ∧ (w2.alloc (.cells (stiC R) 23)).heap[w2.heap.size]? = some (.cells (stiC R) 23 (0, 0))) := ⟨(Below.refl _ _).alloc (Nat.le_refl _) _, heap_alloc_new _ _⟩
  obtain ⟨wb, hwb⟩ : ∃ x, x = w2.alloc (.cells (stiC R) 23) := ⟨_, rfl⟩
  obtain ⟨g2, hg2⟩ : ∃ g, g = w2.heap.size := ⟨_, rfl⟩
  have HZB : Hid (wb.heap[g1]? = some (.cells (stiC R) 23 (0, 0)) ∧ wb.heap[g2]? = some (.cells (stiC R) 23 (0, 0)) ∧ wb.heap[w.heap.size]? = some (.cells (stiC i) 23 (0, 0)) ∧ Below w.heap.size w wb) := by
    rw [← hwb] at HN2
    exact ⟨by rw [HN2.out.1.block _ (lt_of_block HZ2.out.1)]; exact HZ2.out.1, by rw [hg2]; exact HN2.out.2, by rw [HN2.out.1.block _ (lt_of_block HZ2.out.2.1)]; exact HZ2.out.2.1, HZ2.out.2.2.trans (HN2.out.1.mono HZ2.out.2.2.size)⟩
  obtain ⟨i0, i1, i2, i3, i4, i5, i6, i7, i8⟩ := sti_cells HZB.out.2.2.1
  rw [hwb] at i0 i1 i2 i3 i4 i5 i6 i7 i8
  clear HN2 HZ2
  go_wp2_with fail
  rw [← hwb, ← hg2]
  clear hwb hg2 i0 i1 i2 i3 i4 i5 i6 i7 i8
  refine (KL.out wb HZB.out.2.2.2).mono ?_
  rintro e w3 ⟨hp, hb3⟩
  have HZ3 : Hid (w3.heap[g1]? = some (.cells (stiC R) 23 (0, 0)) ∧ w3.heap[g2]? = some (.cells (stiC R) 23 (0, 0)) ∧ w3.heap[w.heap.size]? = some (.cells (stiC i) 23 (0, 0)) ∧ Below w.heap.size w w3) := ⟨by rw [hb3.block _ (lt_of_block HZB.out.1)]; exact HZB.out.1, by rw [hb3.block _ (lt_of_block HZB.out.2.1)]; exact HZB.out.2.1, by rw [hb3.block _ (lt_of_block HZB.out.2.2.1)]; exact HZB.out.2.2.1, HZB.out.2.2.2.trans (hb3.mono HZB.out.2.2.2.size)⟩
  clear hb3 HZB KL
  have HNB : Hid (LayE i e) := hp
  clear hp
  obtain ⟨X, C, he, hXC⟩ : ∃ (X : ByteArray) (C : Int), e = .returned (.tuple #[.string X, .int .i64 C]) ∧ ∀ e', LayE i e' → e' = .returned (.tuple #[.string X, .int .i64 C]) := by
    rcases HNB.out with ⟨h, he⟩ | ⟨h, he⟩
    · exact ⟨_, _, he, fun e' h' => by rcases h' with ⟨_, q⟩ | ⟨q, _⟩; exact q; exact absurd h q⟩
    · exact ⟨_, _, he, fun e' h' => by rcases h' with ⟨q, _⟩ | ⟨_, q⟩; exact absurd q h; exact q⟩
  subst he
  have km := (KM.out w3).mono fun e w' h => (show e = .returned (.tuple #[.string X, .int .i64 C]) ∧ Below w3.heap.size w3 w' from ⟨hXC e h.1, h.2⟩)
  have bC : (C == C) = true := by simp
  have bX : (X.toList == X.toList) = true := by simp
  obtain ⟨i0, i1, i2, i3, i4, i5, i6, i7, i8⟩ := sti_cells HZ3.out.2.2.1
  clear HNB hXC KM hlz
  go_wp2_with fail
  refine km.mono ?_
  rintro e w4 ⟨rfl, hb4⟩
  have HZ4 : Hid (w4.heap[g1]? = some (.cells (stiC R) 23 (0, 0)) ∧ w4.heap[g2]? = some (.cells (stiC R) 23 (0, 0)) ∧ Below w.heap.size w w4) := ⟨by rw [hb4.block _ (lt_of_block HZ3.out.1)]; exact HZ3.out.1, by rw [hb4.block _ (lt_of_block HZ3.out.2.1)]; exact HZ3.out.2.1, HZ3.out.2.2.2.trans (hb4.mono HZ3.out.2.2.2.size)⟩
  clear hb4 HZ3 km i0 i1 i2 i3 i4 i5 i6 i7 i8
  obtain ⟨a0, a1, a2, a3, a4, a5, a6, a7, a8⟩ := sti_cells HZ4.out.1
  obtain ⟨b0, b1, b2, b3, b4, b5, b6, b7, b8⟩ := sti_cells HZ4.out.2.1
  have ka := KA.out w4 HZ4.out.2.2
  clear KA
  go_wp2_with (refine wpList_binOp_eq heq ?_)
  refine ka.mono ?_
  rintro e w5 ⟨rfl, hb5⟩
  have HB5 : Hid (Below w.heap.size w w5) := HZ4.out.2.2.trans (hb5.mono HZ4.out.2.2.size)
  clear ka hb5
  go_wp2_with fail
  go_ret
  exact ⟨rfl, HB5.out⟩


theorem door_met (os : Os) (args : Array Value) : laidMetH Tryd.prog Rows.metaInfosRow.laid ((World.doorLaid Tryd.prog 400 os).forCall (fun _ _ => 0) ⟨#[], args, []⟩).memory :=
  laidMetH_of_parts3 (fuel := 8) (laidMet_of_run' 8 (by kernel_rfl) (by kernel_rfl)) (by kernel_rfl) (by kernel_rfl)

set_option maxRecDepth 100000 in
theorem lifted (os : Os) (started : os.Started) (H : Type) (enc : TypeId × Value → H) :
    ReturnsInHanded {} Tryd.checked os 3 .any (fun w args => (Rows.metaInfosSpec.pre enc Tryd.prog Tryd.f3 [] false w args ∧ laidMetH Tryd.prog Rows.metaInfosRow.laid w) ∧ sizedMet enc Tryd.prog Tryd.f3 (OpenSpec.ofChange Rows.metaInfosSpec) false w args)
      (Rows.metaInfosSpec.post enc Tryd.prog Tryd.f3 false true false false) := by
  refine returnsInHanded_of_change_and (C := Tryd.checked) (X := fun w _ => laidMetH Tryd.prog Rows.metaInfosRow.laid w) (fun _ _ _ hh h => h.of_heap hh) own started (by kernel_rfl) Tryd.func3
    (ChangeSpec.witness_shaped (enc := enc) (C := Tryd.checked) (os := os) (X := fun w _ => laidMetH Tryd.prog Rows.metaInfosRow.laid w) false (World.doorLaid Tryd.prog 400 os) #[.string ByteArray.empty, .agg #[.int .i64 0, .int .i64 0, .int .i64 0, .int .i64 0, .int .i64 0, .int .i64 0, .int .i64 0, .int .i64 0, .string ByteArray.empty]] 8 rfl (World.shaped_of_RefB (by kernel_rfl) (by kernel_rfl)) (by kernel_rfl) (by kernel_rfl) (by kernel_rfl) (door_met os _)) ?_
  intro W base args ds gs before hval0 hW _ hsz0 hL _
  have hval : ∀ (j : Nat) t v, Tryd.f3.params[j]? = some t → args[j]? = some v → Value.okWide Tryd.prog W .any base t v := hval0
  have hsz : (DataW.weightsEach Tryd.prog (Tryd.f3.params.toList ++ Rows.metaInfosSpec.plain.varTypes Tryd.prog) (ds ++ gs)).all (· ≤ reachBytes) = true := hsz0
  have hW' := hW
  obtain ⟨p, q, hA0, hV, rfl, hfz, hnd⟩ := hW
  have hA : DataW.TrodAll enc Tryd.prog W 0 (fun _ => true) true Tryd.f3.params.toList args.toList ds p := hA0
  rw [Tryd.params3] at hA hval hsz
  obtain ⟨v0, vs0, d0, ds0, p0, q0, hargs, rfl, rfl, h0, r0⟩ := trodAll_cons hA
  obtain ⟨v1, vs1, d1, ds1, p1, q1, rfl, rfl, rfl, h1, r1⟩ := trodAll_cons r0
  obtain ⟨rfl, rfl, rfl⟩ := trodAll_nil r1
  obtain rfl : args = #[v0, v1] := by cases args; simp_all
  obtain ⟨rfl, rfl⟩ := trodVars_none hV
  have hall := List.all_eq_true.1 hsz
  obtain ⟨x0, rfl, rfl, rfl, i0⟩ := open_string Tryd.underlying9 (hval 0 9 v0 rfl rfl) h0
  have hq0 := sized_string hsz (j := 0) (t := 9) rfl rfl
  have hz0 : x0.size ≤ 140737488351232 := by
    have e : x0.data.toList.length = x0.size := by rw [Array.length_toList]; rfl
    rw [e] at hq0
    simp only [reachBytes] at hq0
    omega
  have hw1 : ∀ n ∈ d1.weights Tryd.prog 23, n ≤ reachBytes := fun n hn => by
    have := hall n (List.mem_append.2 (.inr (List.mem_append.2 (.inl hn))))
    exact of_decide_eq_true this
  have k1 := h1
  have lt1 : ∀ x ∈ p1, x.block < W.heap.size := by obtain ⟨m, hm⟩ := k1; exact DataW.trod_lt m _ _ _ hm
  obtain ⟨x1, rfl, hf1⟩ := open_sti (hval 1 23 v1 rfl rfl) h1 hw1
  have hT : WidAt W := wid_of_laidI hL
  clear hA0 hval0
  refine (walk x0 hz0 x1 hf1 W hT).mono fun e W' ⟨he, bel⟩ => ?_
  subst he
  exact ⟨_, rfl, _, _, _, [], _, [], hW', trodAll_mk1 (shut_bool Tryd.underlying4 _), (trodAll_cons_mk (shut_string Tryd.underlying9 i0) (trodAll_cons_mk (Below.trod laidOut (by kernel_rfl) (of_decide_eq_true (by kernel_rfl)) k1 bel lt1) trodAll_mk0)), rfl, bel.frame _, fun h => by cases h⟩

theorem said : Rows.MetaInfosSaid :=
  OpenClaim.holds_of_wide 3 Tryd.f3 rfl rfl rfl rfl rfl rfl rfl ⟨rfl, rfl, rfl, rfl, rfl⟩ rfl rfl rfl rfl rfl (by kernel_rfl) Tryd.func3 (by kernel_rfl)
    (of_decide_eq_true (by kernel_rfl)) (by unfold Func.isWrapper; first | (rw [if_pos (by decide +kernel)]; kernel_rfl) | (rw [if_neg (by decide +kernel)]; exact ⟨rfl, rfl⟩))
    (fun os started H enc _ => lifted os started H enc)

/-- No parameter wants a stand-in; the program's own looks are off. -/
theorem plain (f : FuncId) (fn : Func) (hf : Tryd.pinned.checked.prog.funcNamed Rows.metaInfosRow.func = some f) (hfn : Tryd.pinned.checked.prog.funcs[f]? = some fn) :
    false = Tryd.pinned.checked.prog.looks [] ∧ ∀ (j : Nat) t, fn.params[j]? = some t → Tryd.pinned.checked.prog.wantsStandIn t = false := by
  obtain rfl : f = 3 := Option.some.inj ((show Tryd.prog.funcNamed Rows.metaInfosRow.func = some 3 by kernel_rfl).symm.trans hf) |>.symm
  obtain rfl : fn = Tryd.f3 := (Option.some.inj (Tryd.func3.symm.trans hfn)).symm
  refine ⟨by kernel_rfl, fun j t ht => ?_⟩
  rw [Tryd.params3] at ht
  have hm := Array.mem_of_getElem? ht
  simp at hm
  rcases hm with rfl | rfl
  · exact (show Tryd.prog.wantsStandIn 9 = false by kernel_rfl)
  · exact (show Tryd.prog.wantsStandIn 23 = false by kernel_rfl)

theorem card : Rows.MetaInfosCardSaid :=
  Claim7.holds_tied_plain_at .later [] _ _ _ _ said (fun _ h => by cases h) (by kernel_rfl) (fun _ h => by cases h) metaInfos_row_tie rfl ⟨rfl, rfl⟩ (by kernel_rfl) rfl plain (by kernel_rfl)

end Go.Proofs.YtfmpiidnemhijaaDoor.metaInfos
namespace Go.Proofs.YtfmpiidnemhijaaDoor
theorem metaInfos_card : Rows.MetaInfosCardSaid := metaInfos.card
#print axioms metaInfos_card
end Go.Proofs.YtfmpiidnemhijaaDoor
