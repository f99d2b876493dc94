/-
  FrameBuilds: of any frame of any stream with any samples Build tells the bytes that the document says, or its error, and Check the error that the document says; whatever the frame, the stream and the samples. No condition (the tables of packages frame and sums start as the program lays them).
-/
import Derived.ShutString
import Derived.ChangeOld
import Derived.SizedLaws
import Derived.Carry
import Derived.Test.YtfpfabmbipmipaaGreatDoorD40
import Derived.Test.YtfpfabmbipmipaaGreatDoorD45
namespace Go.Proofs.YtfpfabmbipmipaaGreatDoor.frameBuilds
open Go.ChangeShapes Go.WideShapes Go.ChangeAt Go.RowKit
open Go.ChangeMaps (open_string shut_string)
set_option linter.unusedSimpArgs false
set_option linter.unusedVariables false
theorem own : ownKnob Tryz.prog.godebug = none := by kernel_rfl
theorem laidOut : laidOutB Tryz.prog = true := by kernel_rfl
set_option maxRecDepth 20000 in
set_option maxHeartbeats 800000 in
theorem walk (f : Fm) (fo : OA) (fk : Nat) (qa qb qc qd : Int) (q : Inf) (qe : Int) (qs : ByteArray) (hq : I64 q.rate /\ I64 q.ch /\ I64 q.wd) (P : List (List Int)) (Po : OA) (Pk : Nat) (w : World) (rf : FmAt w f fo fk) (rP : RowsAt w Po P) (hT : Lay w) :
  Calls Tryz.prog 3 #[fmV f fo fk, infV qa qb qc qd q qe qs, .slice Po P.length Pk] w fun e w' => e = .returned (.bool true) /\ Lo w w' := by
 have KAw : Hid (∀ wx, Lo w wx -> G1 12 #[] wx (.bool true)) := fun wx hb => awake_c wx (hT.below hb)
 have HLay : Hid (Lay w) := hT
 clear hT
 have HF : Hid (FmAt w f fo fk) := rf
 have HP : Hid (RowsAt w Po P) := rP
 clear rf rP
 have HA : Hid (FX w f fo fk qa qb qc qd q qe qs ((w.alloc (.cells (fmC f fo fk) 24)).alloc (.cells (infC qa qb qc qd q qe qs) 26))) := FX.new w f fo fk qa qb qc qd q qe qs
 obtain ⟨t, r, hy, hn⟩ : ∃ (t : ByteArray) (r : Int), (okF f q P -> t = textOf (frL f q P) /\ r = 0) /\ (¬ okF f q P -> t = ⟨#[]⟩ /\ r = 60) := by
  by_cases h : okF f q P
  ·exact ⟨_, _, fun _ => ⟨rfl, rfl⟩, fun h2 => absurd h h2⟩
  ·exact ⟨_, _, fun h2 => absurd h2 h, fun _ => ⟨rfl, rfl⟩⟩
 obtain ⟨u, uy, un⟩ : ∃ u : Int, (okC f q -> u = 0) /\ (¬ okC f q -> u = 60) := by
  by_cases h : okC f q
  ·exact ⟨0, fun _ => rfl, fun h2 => absurd h h2⟩
  ·exact ⟨60, fun h2 => absurd h2 h, fun _ => rfl⟩
 have hb0 : ∀ wx, Lo w wx -> Calls Tryz.prog 8 #[fmV f fo fk, infV qa qb qc qd q qe qs, .slice Po P.length Pk] wx fun en w' => en = .returned (.tuple #[.string t, .int .i64 r]) /\ Lo wx w' := fun wx hb => by
  by_cases h : okF f q P
  ·rw [(hy h).1, (hy h).2]
   exact build_ok f fo fk qa qb qc qd q qe qs hq.1 P Po Pk wx (HLay.out.below hb) (HF.out.below hb) (HP.out.below hb) h
  ·rw [(hn h).1, (hn h).2]
   exact build_no f fo fk qa qb qc qd q qe qs hq.1 P Po Pk wx (HLay.out.below hb) (HF.out.below hb) (HP.out.below hb) h
 have KB : Hid (∀ wx, Hid (FX w f fo fk qa qb qc qd q qe qs wx) -> Calls Tryz.prog 8 #[fmV f fo fk, infV qa qb qc qd q qe qs, .slice Po P.length Pk] wx fun en w' => en = .returned (.tuple #[.string t, .int .i64 r]) /\ Hid (FX w f fo fk qa qb qc qd q qe qs w')) := fun wx hx => (hb0 wx hx.out.below).mono fun en w' hh => ⟨hh.1, hx.out.next hh.2⟩
 have KX : Hid (∀ wx, Hid (FX w f fo fk qa qb qc qd q qe qs wx) -> Calls Tryz.prog 9 #[fmV f fo fk, infV qa qb qc qd q qe qs, .slice Po P.length Pk] wx fun en w' => en = .returned (.tuple #[.string t, .int .i64 r]) /\ Hid (FX w f fo fk qa qb qc qd q qe qs w')) := fun wx hx => (xbuild11 f fo fk qa qb qc qd q qe qs hq.1 P Po Pk wx (HF.out.below hx.out.below) (HP.out.below hx.out.below) t r hy hn).mono fun en w' hh => ⟨hh.1, hx.out.next hh.2⟩
 have KC : Hid (∀ wx, Hid (FX w f fo fk qa qb qc qd q qe qs wx) -> Calls Tryz.prog 10 #[fmV f fo fk, infV qa qb qc qd q qe qs] wx fun en w' => en = .returned (.int .i64 u) /\ Hid (FX w f fo fk qa qb qc qd q qe qs w')) := fun wx hx => (f_check f fo fk qa qb qc qd q qe qs hq.1 u uy un wx (HF.out.below hx.out.below) (HLay.out.below hx.out.below)).mono fun en w' hh => ⟨hh.1, hx.out.next hh.2⟩
 have KD : Hid (∀ wx, Hid (FX w f fo fk qa qb qc qd q qe qs wx) -> Calls Tryz.prog 11 #[fmV f fo fk, infV qa qb qc qd q qe qs] wx fun en w' => en = .returned (.int .i64 u) /\ Hid (FX w f fo fk qa qb qc qd q qe qs w')) := fun wx hx => (xcheck11 f fo fk qa qb qc qd q qe qs hq.1 u uy un wx (HF.out.below hx.out.below)).mono fun en w' hh => ⟨hh.1, hx.out.next hh.2⟩
 have KA : Hid (∀ wx, Hid (FX w f fo fk qa qb qc qd q qe qs wx) -> Calls Tryz.prog 12 #[] wx fun en w' => en = .returned (.bool true) /\ Hid (FX w f fo fk qa qb qc qd q qe qs w')) := fun wx hx => (KAw.out wx hx.out.below).mono fun en w' hh => ⟨hh.1, hx.out.next hh.2⟩
 clear hy hn uy un hb0 KAw hq HF HP HLay
 have HC : Hid (∀ wx, Hid (FX w f fo fk qa qb qc qd q qe qs wx) -> wx.cell? ⟨w.heap.size, 0, none⟩ = some (.bool f.v) /\ wx.cell? ⟨w.heap.size, 1, none⟩ = some (.int .i64 f.num) /\ wx.cell? ⟨w.heap.size, 2, none⟩ = some (.int .i64 f.size) /\ wx.cell? ⟨w.heap.size, 3, none⟩ = some (.int .i64 f.sc) /\ wx.cell? ⟨w.heap.size, 4, none⟩ = some (.int .i64 f.rc) /\ wx.cell? ⟨w.heap.size, 5, none⟩ = some (.int .i64 f.wc) /\ wx.cell? ⟨w.heap.size, 6, none⟩ = some (.int .i64 f.mo) /\ wx.cell? ⟨w.heap.size, 7, none⟩ = some (.slice fo f.S.length fk) /\ wx.cell? ⟨w.heap.size + 1, 0, none⟩ = some (.int .i64 qa) /\ wx.cell? ⟨w.heap.size + 1, 1, none⟩ = some (.int .i64 qb) /\ wx.cell? ⟨w.heap.size + 1, 2, none⟩ = some (.int .i64 qc) /\ wx.cell? ⟨w.heap.size + 1, 3, none⟩ = some (.int .i64 qd) /\ wx.cell? ⟨w.heap.size + 1, 4, none⟩ = some (.int .i64 q.rate) /\ wx.cell? ⟨w.heap.size + 1, 5, none⟩ = some (.int .i64 q.ch) /\ wx.cell? ⟨w.heap.size + 1, 6, none⟩ = some (.int .i64 q.wd) /\ wx.cell? ⟨w.heap.size + 1, 7, none⟩ = some (.int .i64 qe) /\ wx.cell? ⟨w.heap.size + 1, 8, none⟩ = some (.string qs)) := fun wx h => h.out.cells
 go_enter Tryz.func3, Tryz.ntmps3
 go_upto_region 1 with fail
 generalize World.alloc _ _ = wa at *
 obtain ⟨z0, z1, z2, z3, z4, z5, z6, z7, y0, y1, y2, y3, y4, y5, y6, y7, y8⟩ := HA.out.cells
 go_wp2_with fail
 refine (KB.out _ HA).mono ?_
 rintro en w1 ⟨rfl, H1⟩
 clear HA z0 z1 z2 z3 z4 z5 z6 z7 y0 y1 y2 y3 y4 y5 y6 y7 y8
 obtain ⟨z0, z1, z2, z3, z4, z5, z6, z7, y0, y1, y2, y3, y4, y5, y6, y7, y8⟩ := H1.out.cells
 go_wp2_with fail
 refine (KX.out _ H1).mono ?_
 rintro en w2 ⟨rfl, H2⟩
 clear H1 z0 z1 z2 z3 z4 z5 z6 z7 y0 y1 y2 y3 y4 y5 y6 y7 y8
 have HD : Hid (FX w f fo fk qa qb qc qd q qe qs w2.drew) := H2.out.drew
 clear H2
 go_wp2_with fail
 go_region_held3 (fun wx => wx.cell? ⟨w.heap.size, 0, none⟩ = some (.bool f.v) /\ wx.cell? ⟨w.heap.size, 1, none⟩ = some (.int .i64 f.num) /\ wx.cell? ⟨w.heap.size, 2, none⟩ = some (.int .i64 f.size) /\ wx.cell? ⟨w.heap.size, 3, none⟩ = some (.int .i64 f.sc) /\ wx.cell? ⟨w.heap.size, 4, none⟩ = some (.int .i64 f.rc) /\ wx.cell? ⟨w.heap.size, 5, none⟩ = some (.int .i64 f.wc) /\ wx.cell? ⟨w.heap.size, 6, none⟩ = some (.int .i64 f.mo) /\ wx.cell? ⟨w.heap.size, 7, none⟩ = some (.slice fo f.S.length fk) /\ wx.cell? ⟨w.heap.size + 1, 0, none⟩ = some (.int .i64 qa) /\ wx.cell? ⟨w.heap.size + 1, 1, none⟩ = some (.int .i64 qb) /\ wx.cell? ⟨w.heap.size + 1, 2, none⟩ = some (.int .i64 qc) /\ wx.cell? ⟨w.heap.size + 1, 3, none⟩ = some (.int .i64 qd) /\ wx.cell? ⟨w.heap.size + 1, 4, none⟩ = some (.int .i64 q.rate) /\ wx.cell? ⟨w.heap.size + 1, 5, none⟩ = some (.int .i64 q.ch) /\ wx.cell? ⟨w.heap.size + 1, 6, none⟩ = some (.int .i64 q.wd) /\ wx.cell? ⟨w.heap.size + 1, 7, none⟩ = some (.int .i64 qe) /\ wx.cell? ⟨w.heap.size + 1, 8, none⟩ = some (.string qs)) (exact HC.out _ (by assumption))
  (first
   | (go_at_call 10; refine (KC.out _ (by assumption)).mono ?_; rintro en w3 ⟨rfl, h3⟩)
   | (go_at_call 11; refine (KD.out _ (by assumption)).mono ?_; rintro en w4 ⟨rfl, h4⟩)
   | (go_at_call 12; refine (KA.out _ (by assumption)).mono ?_; rintro en w5 ⟨rfl, h5⟩))
 go_wp2_with fail
 go_ret
 exact ⟨rfl, h5.out.below⟩
theorem door_met (os : Os) (args : Array Value) : laidMetH Tryz.prog Rows.frameBuildsRow.laid ((World.doorLaid Tryz.prog 400 os).forCall (fun _ _ => 0) ⟨#[], args, []⟩).memory :=
 laidMetH_of_parts3 (fuel := 8) (laidMet_of_run' 8 (by kernel_rfl) (by kernel_rfl)) (by kernel_rfl) (by kernel_rfl)
set_option maxRecDepth 100000 in
theorem lifted (os : Os) (started : os.Started) (H : Type) (enc : TypeId × Value -> H) :
  ReturnsInHanded {} Tryz.checked os 3 .any (fun w args => (Rows.frameBuildsSpec.pre enc Tryz.prog Tryz.f3 [] false w args /\ laidMetH Tryz.prog Rows.frameBuildsRow.laid w) /\ sizedMet enc Tryz.prog Tryz.f3 (OpenSpec.ofChange Rows.frameBuildsSpec) false w args)
   (Rows.frameBuildsSpec.post enc Tryz.prog Tryz.f3 false true false false) := by
 refine returnsInHanded_of_change_and (C := Tryz.checked) (X := fun w _ => laidMetH Tryz.prog Rows.frameBuildsRow.laid w) (fun _ _ _ hh h => h.of_heap hh) own started (by kernel_rfl) Tryz.func3
  (ChangeSpec.witness_shaped (enc := enc) (C := Tryz.checked) (os := os) (X := fun w _ => laidMetH Tryz.prog Rows.frameBuildsRow.laid w) false (World.doorLaid Tryz.prog 400 os) #[.agg #[.bool false, .int .i64 0, .int .i64 0, .int .i64 0, .int .i64 0, .int .i64 0, .int .i64 0, .slice none 0 0], .agg #[.int .i64 0, .int .i64 0, .int .i64 0, .int .i64 0, .int .i64 0, .int .i64 0, .int .i64 0, .int .i64 0, .string ByteArray.empty], .slice none 0 0] 8 rfl (World.shaped_of_RefB (by kernel_rfl) (by kernel_rfl)) (by kernel_rfl) (by kernel_rfl) (by kernel_rfl) (door_met os _)) ?_
 intro W base args ds gs before hval0 hW _ hsz0 hL _
 have hval : ∀ (j : Nat) t v, Tryz.f3.params[j]? = some t -> args[j]? = some v -> Value.okWide Tryz.prog W .any base t v := hval0
 have hsz : (DataW.weightsEach Tryz.prog (Tryz.f3.params.toList ++ Rows.frameBuildsSpec.plain.varTypes Tryz.prog) (ds ++ gs)).all (· <= reachBytes) = true := hsz0
 have hW' := hW
 obtain ⟨p, q, hA0, hV, rfl, hfz, hnd⟩ := hW
 have hA : DataW.TrodAll enc Tryz.prog W 0 (fun _ => true) true Tryz.f3.params.toList args.toList ds p := hA0
 rw [Tryz.params3] at hA hval hsz
 obtain ⟨v0, vs0, d0, ds0, p0, q0, hargs, rfl, rfl, h0, r0⟩ := trodAll_cons hA
 obtain ⟨v1, vs1, d1, ds1, p1, q1, rfl, rfl, rfl, h1, r1⟩ := trodAll_cons r0
 obtain ⟨v2, vs2, d2, ds2, p2, q2, rfl, rfl, rfl, h2, r2⟩ := trodAll_cons r1
 obtain ⟨rfl, rfl, rfl⟩ := trodAll_nil r2
 obtain rfl : args = #[v0, v1, v2] := by cases args; simp_all
 obtain ⟨rfl, rfl⟩ := trodVars_none hV
 have hall := List.all_eq_true.1 hsz
 have hw0 : ∀ n ∈ d0.weights Tryz.prog 24, n <= reachBytes := fun n hn => by
  have := hall n (List.mem_append.2 (.inl hn))
  exact of_decide_eq_true this
 have k0 := h0
 have lt0 : ∀ x ∈ p0, x.block < W.heap.size := by obtain ⟨m, hm⟩ := k0; exact DataW.trod_lt m _ _ _ hm
 obtain ⟨x0, so0, sk0, rfl, hr0⟩ := open_frame (hval 0 24 v0 rfl rfl) h0 hw0
 have k1 := h1
 have lt1 : ∀ x ∈ p1, x.block < W.heap.size := by obtain ⟨m, hm⟩ := k1; exact DataW.trod_lt m _ _ _ hm
 obtain ⟨a1, b1, c1, dd1, i1, e1, s1, rfl, hi1⟩ := open_info (hval 1 26 v1 rfl rfl) h1
 have hw2 : ∀ n ∈ d2.weights Tryz.prog 27, n <= reachBytes := fun n hn => by
  have := hall n (List.mem_append.2 (.inr (List.mem_append.2 (.inr (List.mem_append.2 (.inl hn))))))
  exact of_decide_eq_true this
 have k2 := h2
 have lt2 : ∀ x ∈ p2, x.block < W.heap.size := by obtain ⟨m, hm⟩ := k2; exact DataW.trod_lt m _ _ _ hm
 obtain ⟨o2, k2x, x2, rfl, hr2⟩ := open_rows (hval 2 27 v2 rfl rfl) h2 hw2
 have hT : Lay W := lay_of_laidB hL
 clear hA0 hval0
 refine (walk x0 so0 sk0 a1 b1 c1 dd1 i1 e1 s1 hi1 x2 o2 k2x W hr0 hr2 hT).mono fun e W' ⟨he, bel⟩ => ?_
 subst he
 exact ⟨_, rfl, _, _, _, [], _, [], hW', trodAll_mk1 (shut_bool Tryz.underlying4 _), (trodAll_cons_mk (Below.trod laidOut (by kernel_rfl) (of_decide_eq_true (by kernel_rfl)) k0 bel lt0) (trodAll_cons_mk (Below.trod laidOut (by kernel_rfl) (of_decide_eq_true (by kernel_rfl)) k1 bel lt1) (trodAll_cons_mk (Below.trod laidOut (by kernel_rfl) (of_decide_eq_true (by kernel_rfl)) k2 bel lt2) trodAll_mk0))), rfl, bel.frame _, fun h => by cases h⟩
theorem said : Rows.FrameBuildsSaid :=
 OpenClaim.holds_of_wide 3 Tryz.f3 rfl rfl rfl rfl rfl rfl rfl ⟨rfl, rfl, rfl, rfl, rfl⟩ rfl rfl rfl rfl rfl (by kernel_rfl) Tryz.func3 (by kernel_rfl)
  (of_decide_eq_true (by kernel_rfl)) (by unfold Func.isWrapper; first | (rw [if_pos (by decide +kernel)]; kernel_rfl) | (rw [if_neg (by decide +kernel)]; exact ⟨rfl, rfl⟩))
  (fun os started H enc _ => lifted os started H enc)
theorem plain (f : FuncId) (fn : Func) (hf : Tryz.pinned.checked.prog.funcNamed Rows.frameBuildsRow.func = some f) (hfn : Tryz.pinned.checked.prog.funcs[f]? = some fn) :
  false = Tryz.pinned.checked.prog.looks [] /\ ∀ (j : Nat) t, fn.params[j]? = some t -> Tryz.pinned.checked.prog.wantsStandIn t = false := by
 obtain rfl : f = 3 := Option.some.inj ((show Tryz.prog.funcNamed Rows.frameBuildsRow.func = some 3 by kernel_rfl).symm.trans hf) |>.symm
 obtain rfl : fn = Tryz.f3 := (Option.some.inj (Tryz.func3.symm.trans hfn)).symm
 refine ⟨by kernel_rfl, fun j t ht => ?_⟩
 rw [Tryz.params3] at ht
 have hm := Array.mem_of_getElem? ht
 simp at hm
 rcases hm with rfl | rfl | rfl
 ·exact (show Tryz.prog.wantsStandIn 24 = false by kernel_rfl)
 ·exact (show Tryz.prog.wantsStandIn 26 = false by kernel_rfl)
 ·exact (show Tryz.prog.wantsStandIn 27 = false by kernel_rfl)
theorem card : Rows.FrameBuildsCardSaid :=
 Claim7.holds_tied_plain_at .later [] _ _ _ _ said (fun _ h => by cases h) (by kernel_rfl) (fun _ h => by cases h) frameBuilds_row_tie rfl ⟨rfl, rfl⟩ (by kernel_rfl) rfl plain (by kernel_rfl)
end Go.Proofs.YtfpfabmbipmipaaGreatDoor.frameBuilds
namespace Go.Proofs.YtfpfabmbipmipaaGreatDoor
theorem frameBuilds_card : Rows.FrameBuildsCardSaid := frameBuilds.card
#print axioms frameBuilds_card
end Go.Proofs.YtfpfabmbipmipaaGreatDoor
