/- Own text. -/
import Derived.Test.YthgpleelpeacjaaGreatDoorH36
set_option linter.unusedSimpArgs false
set_option linter.unusedVariables false
set_option maxRecDepth 20000
set_option maxHeartbeats 12800000
namespace Go.Proofs.YthgpleelpeacjaaGreatDoor
open Go.RowKit
theorem info_Info12 : (Tryz.prog.info? 38).map (·.size) = some 9 := by kernel_rfl
theorem z_size0 (w : World) : Calls Tryz.prog 11 #[.int .i64 0] w fun e w' => e = .returned (.int .i64 1152) ∧ w' = w := by
 go_enter Tryz.func11, Tryz.ntmps11
 go_wp2_with fail
 go_ret
 exact ⟨rfl, rfl⟩
theorem z_size3 (w : World) : Calls Tryz.prog 11 #[.int .i64 3] w fun e w' => e = .returned (.int .i64 0) ∧ w' = w := by
 go_enter Tryz.func11, Tryz.ntmps11
 go_wp2_with fail
 go_ret
 exact ⟨rfl, rfl⟩
theorem info12 (w : World) : Calls Tryz.prog 25 #[] w fun en w' => en = .returned (infV 16 4608 0 0 ⟨8000, 1, 8⟩ 0 ⟨#[]⟩) ∧ Below w.heap.size w w' := by
 go_enter Tryz.func25, Tryz.ntmps25
 go_wp2_with fail
 refine bodyPost_ret (v := .agg (infC 16 4608 0 0 ⟨8000, 1, 8⟩ 0 ⟨#[]⟩)) ?_ rfl ⟨rfl, (Below.refl _ _).alloc (Nat.le_refl _) _⟩
 rw [results_one rfl]
 have hld := run_loadVar_row (P := Tryz.prog) (w.alloc (.cells (infC 16 4608 0 0 ⟨8000, 1, 8⟩ 0 ⟨#[]⟩) 38)) (w.heap.size) 38 38 (infC 16 4608 0 0 ⟨8000, 1, 8⟩ 0 ⟨#[]⟩) (0, 0) _ (heap_alloc_new _ _) Tryz.underlying38 rfl info_Info12
 simp [asAddr, Result.andThen, hld]
theorem awake12 (w : World) (hT : Tz w) (hL : Lay w) : Calls Tryz.prog 7 #[] w fun e w' => e = .returned (.bool true) ∧ Below w.heap.size w w' := by
 obtain ⟨iI, hIa, hIb, hIc, hId⟩ := int_info
 obtain ⟨l5, hl5⟩ : ∃ l5 : List Int, l5 = [5, 5, 5, 5, 5, 5, 5, 5, 5, 5, 5, 5, 5, 5, 5, 5] := ⟨_, rfl⟩
 obtain ⟨l6, hl6⟩ : ∃ l6 : List Int, l6 = [0, 1, 2, 3, 4, 5, 6, 7, 8, 9, 10, 11, 12, 13, 14, 15] := ⟨_, rfl⟩
 have H5 : Hid (∀ j, j < 16 → l5.take (j + 1) = l5.take j ++ [5]) := by rw [hl5]; show ∀ j, j < 16 → _; decide
 have H6 : Hid (∀ j, j < 16 → l6.take (j + 1) = l6.take j ++ [(j : Int)]) := by rw [hl6]; show ∀ j, j < 16 → _; decide
 have HE5 : Hid (l5.take 16 = l5 ∧ l5.length = 16 ∧ l5 = [5, 5, 5, 5, 5, 5, 5, 5, 5, 5, 5, 5, 5, 5, 5, 5]) := ⟨by rw [hl5]; rfl, by rw [hl5]; rfl, hl5⟩
 have HE6 : Hid (l6.take 16 = l6 ∧ l6.length = 16 ∧ l6 = [0, 1, 2, 3, 4, 5, 6, 7, 8, 9, 10, 11, 12, 13, 14, 15]) := ⟨by rw [hl6]; rfl, by rw [hl6]; rfl, hl6⟩
 have HT : Hid (Tz w) := hT
 have HL : Hid (Lay w) := hL
 clear hl5 hl6 hT hL
 go_enter Tryz.func7, Tryz.ntmps7
 go_wp2_with fail
 go_loopw [1, 2, 3] (fun s1 s2 s3 wr => ∃ (j : Nat) (vX vY : Value), j ≤ 16 ∧ s3 = .int .i64 (j : Int) ∧ s1 = vX ∧ s2 = vY ∧ Out2 w vX vY (l5.take j) (l6.take j) wr) (fun _ _ s3 _ => 16 - (intOf s3).toNat)
 case atStart => exact ⟨0, _, _, by omega, rfl, rfl, rfl, Out2.nil w⟩
 case round =>
  obtain ⟨j, vX, vY, hj, rfl, rfl, rfl, ho2⟩ := hrel
  obtain ⟨xa, xc, ya, yc, hvX, hvY⟩ := ho2.shape
  subst hvX hvY
  have HLX : Hid ((l5.take j).length = j ∧ (l6.take j).length = j) := ⟨by rw [List.length_take, HE5.out.2.1]; omega, by rw [List.length_take, HE6.out.2.1]; omega⟩
  by_cases hlt : j < 16
  ·have HN5 : Hid (l5.take (j + 1) = l5.take j ++ [5]) := H5.out j hlt
   have HN6 : Hid (l6.take (j + 1) = l6.take j ++ [(j : Int)]) := H6.out j hlt
   have hx16 : (l5.take j).length ≤ 16 := by rw [HLX.out.1]; exact hj
   have hy16 : (l6.take j).length ≤ 16 := by rw [HLX.out.2]; exact hj
   have HO : Hid (Out2 w (.slice xa (l5.take j).length xc) (.slice ya (l6.take j).length yc) (l5.take j) (l6.take j) wr) := ho2
   clear ho2 HLX
   generalize l5.take j = xs at *
   generalize l6.take j = ys at *
   go_wp2_with (first | (at_builtin; refine wpList_append_lies _ rfl (.tmp 14) (.tmp 15) 22 rfl w.heap.size 3 iI (.int .i64 0) 1 8 undI3 hIa hIb hIc hId rfl (by decide) (.slice xa xs.length xc) xs.length (intsC xs) rfl (HO.out.alloc _).ox ⟨wr.heap.size, 0, none⟩ 1 1 [.int .i64 5] rfl rfl (World.news_of_block (cs := #[.int .i64 5]) (t := 3) (fr := (0, 0)) (heap_alloc_new _ _)) (by intro u hu; rw [List.mem_singleton] at hu; rw [hu]; rfl) (by decide) (by unfold maxLen; omega) (by omega) (HO.out.alloc _).below.size _ rfl ?_; intro gA cA wA ownA groA hatA hltA; have HOA : Hid (Out2 w (.slice (some ⟨gA, 0, none⟩) (xs.length + 1) cA) (.slice ya ys.length yc) (xs ++ [5]) ys wA) := (HO.out.alloc _).pushX ownA groA hatA) | (at_builtin; refine wpList_append_lies _ rfl (.tmp 17) (.tmp 19) 22 rfl w.heap.size 3 iI (.int .i64 0) 1 8 undI3 hIa hIb hIc hId rfl (by decide) (.slice ya ys.length yc) ys.length (intsC ys) rfl (HOA.out.alloc _).oy ⟨wA.heap.size, 0, none⟩ 1 1 [.int .i64 (j : Int)] rfl rfl (World.news_of_block (cs := #[.int .i64 (j : Int)]) (t := 3) (fr := (0, 0)) (heap_alloc_new _ _)) (by intro u hu; rw [List.mem_singleton] at hu; rw [hu]; rfl) (by decide) (by unfold maxLen; omega) (by omega) (HOA.out.alloc _).below.size _ rfl ?_; intro gB cB wB ownB groB hatB hltB; have HOB : Hid (Out2 w (.slice (some ⟨gA, 0, none⟩) (xs.length + 1) cA) (.slice (some ⟨gB, 0, none⟩) (ys.length + 1) cB) (xs ++ [5]) (ys ++ [(j : Int)]) wB) := (HOA.out.alloc _).pushY ownB groB hatB))
   go_roundw
   case rel => exact ⟨j + 1, _, _, by omega, by go_num, rfl, rfl, by rw [HN5.out, HN6.out]; exact HOB.out⟩
   case measure => simp [intOf]; omega
  ·have hj16 : j = 16 := by omega
   have hb0 := ho2.below
   have HX5 : Hid (IntsAt wr xa [5, 5, 5, 5, 5, 5, 5, 5, 5, 5, 5, 5, 5, 5, 5, 5] ∧ IntsAt wr ya [0, 1, 2, 3, 4, 5, 6, 7, 8, 9, 10, 11, 12, 13, 14, 15]) := by
    have h1 := ho2.ox
    have h2 := ho2.oy
    rw [hj16, HE5.out.1, HE5.out.2.2] at h1
    rw [hj16, HE6.out.1, HE6.out.2.2] at h2
    exact ⟨own_ints h1 (by decide) (by decide), own_ints h2 (by decide) (by decide)⟩
   have HXC : Hid (16 ≤ xc ∧ (xa = none → xc = 0)) := by
    have h1 := ho2.ox
    rw [hj16, HE5.out.1, HE5.out.2.2] at h1
    rcases h1.2 with ⟨_, e0⟩ | ⟨g, c, cur, e3, _, _, h5, _⟩
    ·cases e0
    ·obtain ⟨e4, e5⟩ : xa = some ⟨g, 0, none⟩ ∧ xc = c := by simpa using e3
     exact ⟨by rw [e5]; exact h5, fun e => by rw [e4] at e; cases e⟩
   have e1 := HLX.out.1
   have e2 := HLX.out.2
   rw [e1, e2, hj16]
   have HB0 : Hid (Below w.heap.size w wr) := hb0
   clear ho2 hb0 HLX e1 e2 hj16 hlt H5 H6 HE5 HE6
   go_wp2_with fail
   refine (k_five xa xc wr (HT.out.below HB0.out) HX5.out.1).mono ?_
   rintro e w1 ⟨q, ca, cc, pa, pc, ea, ec, rfl, hb1⟩
   have hb2 : Below wr.heap.size wr (w1.alloc (.cells #[.int .i64 0, .int .i64 q.o, .int .i64 q.w, .int .i64 q.p, .int .i64 q.h, .slice ca q.C.length cc, .int .i64 q.R.m, .int .i64 q.R.o, .slice pa q.R.P.length pc, .slice ea q.R.E.length ec] 27)) := hb1.alloc hb1.size _
   have HB2 : Hid (Below w.heap.size w (w1.alloc (.cells #[.int .i64 0, .int .i64 q.o, .int .i64 q.w, .int .i64 q.p, .int .i64 q.h, .slice ca q.C.length cc, .int .i64 q.R.m, .int .i64 q.R.o, .slice pa q.R.P.length pc, .slice ea q.R.E.length ec] 27))) := HB0.out.trans (hb2.mono HB0.out.size)
   have HX2 : Hid (IntsAt (w1.alloc (.cells #[.int .i64 0, .int .i64 q.o, .int .i64 q.w, .int .i64 q.p, .int .i64 q.h, .slice ca q.C.length cc, .int .i64 q.R.m, .int .i64 q.R.o, .slice pa q.R.P.length pc, .slice ea q.R.E.length ec] 27)) xa [5, 5, 5, 5, 5, 5, 5, 5, 5, 5, 5, 5, 5, 5, 5, 5] ∧ IntsAt (w1.alloc (.cells #[.int .i64 0, .int .i64 q.o, .int .i64 q.w, .int .i64 q.p, .int .i64 q.h, .slice ca q.C.length cc, .int .i64 q.R.m, .int .i64 q.R.o, .slice pa q.R.P.length pc, .slice ea q.R.E.length ec] 27)) ya [0, 1, 2, 3, 4, 5, 6, 7, 8, 9, 10, 11, 12, 13, 14, 15]) := ⟨HX5.out.1.below hb2, HX5.out.2.below hb2⟩
   have HA2 : Hid ((w1.alloc (.cells #[.int .i64 0, .int .i64 q.o, .int .i64 q.w, .int .i64 q.p, .int .i64 q.h, .slice ca q.C.length cc, .int .i64 q.R.m, .int .i64 q.R.o, .slice pa q.R.P.length pc, .slice ea q.R.E.length ec] 27)).heap[w1.heap.size]? = some (.cells #[.int .i64 0, .int .i64 q.o, .int .i64 q.w, .int .i64 q.p, .int .i64 q.h, .slice ca q.C.length cc, .int .i64 q.R.m, .int .i64 q.R.o, .slice pa q.R.P.length pc, .slice ea q.R.E.length ec] 27 (0, 0))) := heap_alloc_new _ _
   clear hb1 hb2 HB0 HX5
   go_upto_region 7 with fail
   generalize hw2 : World.alloc _ _ = w2 at *
   generalize hga : w1.heap.size = ga at *
   clear hw2 hga
   go_wp2_with fail
   refine (k_up ya yc w2 (HT.out.below HB2.out) HX2.out.2).mono ?_
   rintro e w3 ⟨p, da, dc, db, dd, de, df, n, rfl, hn0, hb3⟩
   have hb4 : Below w2.heap.size w2 (w3.alloc (.cells #[.int .i64 2, .int .i64 2, .int .i64 p.w, .int .i64 p.p, .int .i64 p.h, .slice da p.C.length dc, .int .i64 p.R.m, .int .i64 p.R.o, .slice db p.R.P.length dd, .slice de p.R.E.length df] 27)) := hb3.alloc hb3.size _
   have HB4 : Hid (Below w.heap.size w (w3.alloc (.cells #[.int .i64 2, .int .i64 2, .int .i64 p.w, .int .i64 p.p, .int .i64 p.h, .slice da p.C.length dc, .int .i64 p.R.m, .int .i64 p.R.o, .slice db p.R.P.length dd, .slice de p.R.E.length df] 27))) := HB2.out.trans (hb4.mono HB2.out.size)
   have HX4 : Hid (IntsAt (w3.alloc (.cells #[.int .i64 2, .int .i64 2, .int .i64 p.w, .int .i64 p.p, .int .i64 p.h, .slice da p.C.length dc, .int .i64 p.R.m, .int .i64 p.R.o, .slice db p.R.P.length dd, .slice de p.R.E.length df] 27)) xa [5, 5, 5, 5, 5, 5, 5, 5, 5, 5, 5, 5, 5, 5, 5, 5]) := HX2.out.1.below hb4
   have HA4 : Hid ((w3.alloc (.cells #[.int .i64 2, .int .i64 2, .int .i64 p.w, .int .i64 p.p, .int .i64 p.h, .slice da p.C.length dc, .int .i64 p.R.m, .int .i64 p.R.o, .slice db p.R.P.length dd, .slice de p.R.E.length df] 27)).heap[ga]? = some (.cells #[.int .i64 0, .int .i64 q.o, .int .i64 q.w, .int .i64 q.p, .int .i64 q.h, .slice ca q.C.length cc, .int .i64 q.R.m, .int .i64 q.R.o, .slice pa q.R.P.length pc, .slice ea q.R.E.length ec] 27 (0, 0))) := by show _ = _; rw [hb4.block _ (lt_of_block HA2.out)]; exact HA2.out
   have HC4 : Hid ((w3.alloc (.cells #[.int .i64 2, .int .i64 2, .int .i64 p.w, .int .i64 p.p, .int .i64 p.h, .slice da p.C.length dc, .int .i64 p.R.m, .int .i64 p.R.o, .slice db p.R.P.length dd, .slice de p.R.E.length df] 27)).heap[w3.heap.size]? = some (.cells #[.int .i64 2, .int .i64 2, .int .i64 p.w, .int .i64 p.p, .int .i64 p.h, .slice da p.C.length dc, .int .i64 p.R.m, .int .i64 p.R.o, .slice db p.R.P.length dd, .slice de p.R.E.length df] 27 (0, 0))) := heap_alloc_new _ _
   clear hb3 hb4 HB2 HX2 HA2
   go_upto_region 8 with fail
   generalize hw4 : World.alloc _ _ = w4 at *
   generalize hgb : w3.heap.size = gb at *
   clear hw4 hgb
   go_wp2_with fail
   refine (info12 w4).mono ?_
   rintro e w5 ⟨rfl, hb5⟩
   have hb6 : Below w4.heap.size w4 (w5.alloc (.cells #[.slice xa 16 xc] 22)) := hb5.alloc hb5.size _
   have HB6 : Hid (Below w.heap.size w (w5.alloc (.cells #[.slice xa 16 xc] 22))) := HB4.out.trans (hb6.mono HB4.out.size)
   have HR6 : Hid (RowsAt (w5.alloc (.cells #[.slice xa 16 xc] 22)) (some ⟨w5.heap.size, 0, none⟩) [[5, 5, 5, 5, 5, 5, 5, 5, 5, 5, 5, 5, 5, 5, 5, 5]]) := by
    refine ⟨by decide, fun _ => ⟨w5.heap.size, 0, rfl, fun i hi => ?_⟩⟩
    have e : i = 0 := by have : i < 1 := hi; omega
    subst e
    exact ⟨xa, xc, by rw [cell_row (heap_alloc_new _ _)]; rfl, HXC.out.1, HXC.out.2, HX4.out.below hb6⟩
   have HA6 : Hid ((w5.alloc (.cells #[.slice xa 16 xc] 22)).heap[ga]? = some (.cells #[.int .i64 0, .int .i64 q.o, .int .i64 q.w, .int .i64 q.p, .int .i64 q.h, .slice ca q.C.length cc, .int .i64 q.R.m, .int .i64 q.R.o, .slice pa q.R.P.length pc, .slice ea q.R.E.length ec] 27 (0, 0))) := by show _ = _; rw [hb6.block _ (lt_of_block HA4.out)]; exact HA4.out
   have HC6 : Hid ((w5.alloc (.cells #[.slice xa 16 xc] 22)).heap[gb]? = some (.cells #[.int .i64 2, .int .i64 2, .int .i64 p.w, .int .i64 p.p, .int .i64 p.h, .slice da p.C.length dc, .int .i64 p.R.m, .int .i64 p.R.o, .slice db p.R.P.length dd, .slice de p.R.E.length df] 27 (0, 0))) := by show _ = _; rw [hb6.block _ (lt_of_block HC4.out)]; exact HC4.out
   clear hb5 hb6 HB4 HX4 HA4 HC4
   go_wp2_with fail
   generalize hw6 : World.alloc _ _ = w6 at *
   generalize hgr : w5.heap.size = gr at *
   clear hw6 hgr
   refine (k_frame (some ⟨gr, 0, none⟩) w6 (HT.out.below HB6.out) (HL.out.below HB6.out) HR6.out).mono ?_
   rintro e w7 ⟨G, so, sk, rfl, hb7⟩
   have hb8 : Below w6.heap.size w6 (w7.alloc (.cells #[.bool G.v, .int .i64 G.num, .int .i64 G.size, .int .i64 6, .int .i64 4, .int .i64 1, .int .i64 G.mo, .slice so G.S.length sk] 41)) := hb7.alloc hb7.size _
   have HB8 : Hid (Below w.heap.size w (w7.alloc (.cells #[.bool G.v, .int .i64 G.num, .int .i64 G.size, .int .i64 6, .int .i64 4, .int .i64 1, .int .i64 G.mo, .slice so G.S.length sk] 41))) := HB6.out.trans (hb8.mono HB6.out.size)
   have HA8 : Hid ((w7.alloc (.cells #[.bool G.v, .int .i64 G.num, .int .i64 G.size, .int .i64 6, .int .i64 4, .int .i64 1, .int .i64 G.mo, .slice so G.S.length sk] 41)).heap[ga]? = some (.cells #[.int .i64 0, .int .i64 q.o, .int .i64 q.w, .int .i64 q.p, .int .i64 q.h, .slice ca q.C.length cc, .int .i64 q.R.m, .int .i64 q.R.o, .slice pa q.R.P.length pc, .slice ea q.R.E.length ec] 27 (0, 0))) := by show _ = _; rw [hb8.block _ (lt_of_block HA6.out)]; exact HA6.out
   have HC8 : Hid ((w7.alloc (.cells #[.bool G.v, .int .i64 G.num, .int .i64 G.size, .int .i64 6, .int .i64 4, .int .i64 1, .int .i64 G.mo, .slice so G.S.length sk] 41)).heap[gb]? = some (.cells #[.int .i64 2, .int .i64 2, .int .i64 p.w, .int .i64 p.p, .int .i64 p.h, .slice da p.C.length dc, .int .i64 p.R.m, .int .i64 p.R.o, .slice db p.R.P.length dd, .slice de p.R.E.length df] 27 (0, 0))) := by show _ = _; rw [hb8.block _ (lt_of_block HC6.out)]; exact HC6.out
   have HF8 : Hid ((w7.alloc (.cells #[.bool G.v, .int .i64 G.num, .int .i64 G.size, .int .i64 6, .int .i64 4, .int .i64 1, .int .i64 G.mo, .slice so G.S.length sk] 41)).heap[w7.heap.size]? = some (.cells #[.bool G.v, .int .i64 G.num, .int .i64 G.size, .int .i64 6, .int .i64 4, .int .i64 1, .int .i64 G.mo, .slice so G.S.length sk] 41 (0, 0))) := heap_alloc_new _ _
   clear hb7 hb8 HB6 HA6 HC6 HR6
   go_upto_region 9 with fail
   generalize hw8 : World.alloc _ _ = w8 at *
   generalize hgf : w7.heap.size = gf at *
   clear hw8 hgf
   have a0 : w8.cell? ⟨ga, 0, none⟩ = some (.int .i64 0) := by rw [cell_row HA8.out]; rfl
   have b0 : w8.cell? ⟨gb, 0, none⟩ = some (.int .i64 2) := by rw [cell_row HC8.out]; rfl
   have b1 : w8.cell? ⟨gb, 1, none⟩ = some (.int .i64 2) := by rw [cell_row HC8.out]; rfl
   have f3 : w8.cell? ⟨gf, 3, none⟩ = some (.int .i64 6) := by rw [cell_row HF8.out]; rfl
   have f4 : w8.cell? ⟨gf, 4, none⟩ = some (.int .i64 4) := by rw [cell_row HF8.out]; rfl
   have f5 : w8.cell? ⟨gf, 5, none⟩ = some (.int .i64 1) := by rw [cell_row HF8.out]; rfl
   go_wp2_with fail
   refine (z_size0 w8).mono ?_
   rintro e w9 ⟨rfl, hw9⟩
   subst hw9
   go_wp2_with fail
   refine (z_size3 w9).mono ?_
   rintro e w10 ⟨rfl, hw10⟩
   subst hw10
   go_wp2_with fail
   go_ret
   exact ⟨rfl, HB8.out⟩
end Go.Proofs.YthgpleelpeacjaaGreatDoor
