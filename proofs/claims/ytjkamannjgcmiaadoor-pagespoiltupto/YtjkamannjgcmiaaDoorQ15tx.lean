/- Own text: the walk of text. -/
import Derived.Test.YtjkamannjgcmiaaDoorQ15pa
namespace Go.Proofs.YtjkamannjgcmiaaDoor
open Go.RowKit
set_option linter.unusedSimpArgs false
set_option linter.unusedVariables false

/-- Sheets as bytes. -/
def layS (X : List Sh) : List Nat := X.flatMap fun y => layP y.p (bytesOf y.b)
theorem layS_snoc (X : List Sh) (y : Sh) : layS (X ++ [y]) = layS X ++ layP y.p (bytesOf y.b) := by unfold layS; rw [List.flatMap_append, List.flatMap_cons, List.flatMap_nil, List.append_nil]
structure TxQ (w0 : World) (b g : Nat) (C : Array Value) (l : List Nat) (w : World) : Prop where
  bu : BUI w0.heap.size b l w
  bx : Box w g C 74
  bl : Below w0.heap.size w0 w
theorem TxQ.low {w0 : World} {b g : Nat} {C : Array Value} {l : List Nat} {w w' : World} (h : TxQ w0 b g C l w) (hb : Below w.heap.size w w') : TxQ w0 b g C l w' := ⟨h.bu.low hb, h.bx.keep hb, h.bl.trans (hb.mono h.bl.size)⟩
theorem layP_parts (p : Pg) (bd : ByteArray) (hn : numOk p) (hl : lacOk p.la) : bytesOf (textOf (hdG p)) = hdG p ∧ bytesOf (textOf (tlG p (bytesOf bd))) = tlG p (bytesOf bd) ∧ (hdG p).length = 22 ∧ (tlG p (bytesOf bd)).length = 1 + p.la.length + bd.size := by
  have h := layP_lt p (bytesOf bd) hn hl (bytesOf_lt bd)
  refine ⟨S2.bytesOf_textOf _ (fun x hx => h x ?_), S2.bytesOf_textOf _ (fun x hx => h x ?_), ?_, ?_⟩
  · unfold layP; rw [List.append_assoc]; exact List.mem_append_left _ hx
  · unfold layP; exact List.mem_append_right _ hx
  · have := layP_length p []
    unfold hdG
    simp [markL, S2.lowL_length]
    unfold layG
    split
    · rfl
    · rw [S2.lowL_length]
  · unfold tlG
    rw [List.length_append, List.length_append, natL_length, bytesOf_length, List.length_singleton]
theorem hd_parts (p : Pg) (h : p.fl.toNat < 256) : (⟨#[79, 103, 103, 83, 0]⟩ : ByteArray) ++ textOf (S2.lowL p.fl.toNat 1) ++ textOf (layG p.gr) ++ textOf (S2.lowL p.se.toNat 4) ++ textOf (S2.lowL p.sq.toNat 4) = textOf (hdG p) := by
  have e1 : S2.lowL p.fl.toNat 1 = [p.fl.toNat] := by
    rw [low_succ]
    show p.fl.toNat % 256 :: [] = _
    rw [Nat.mod_eq_of_lt h]
  have e0 : textOf markL = (⟨#[79, 103, 103, 83, 0]⟩ : ByteArray) := by decide +kernel
  unfold hdG
  rw [text_app, text_app, text_app, text_app, e0, e1]
theorem tl_parts (p : Pg) (bd : ByteArray) (h : p.la.length < 256) : textOf (S2.lowL p.la.length 1) ++ textOf (natL p.la) ++ bd = textOf (tlG p (bytesOf bd)) := by
  have e1 : S2.lowL p.la.length 1 = [p.la.length] := by
    rw [low_succ]
    show p.la.length % 256 :: [] = _
    rw [Nat.mod_eq_of_lt h]
  unfold tlG
  rw [text_app, text_app, e1, S2.textOf_bytesOf]
attribute [local go_sem] Oper.semAt_some
set_option maxRecDepth 20000 in
set_option maxHeartbeats 3200000 in
theorem j_text (w : World) (v : Value) (L : List SP) (hR : S3.RulesAt w) (h : ShsAt w v L) (hn : L.length ≤ 65536) (hf : ∀ y ∈ L, fitS y.1 ∧ numOk y.1.p) : Calls Tryd.prog 30 #[v] w fun e w' => e = .returned (.string (textOf (layS (L.map Prod.fst)))) ∧ Below w.heap.size w w' := by
  obtain ⟨B, ho, hp⟩ := h
  obtain ⟨av, cv, ev⟩ := owns_sl ho
  subst ev
  have HO := hid ho
  have HP := hid hp
  have HFT := hid hf
  have HR := hid hR
  have HS0 : Hid (BUI w.heap.size w.heap.size [] (w.alloc (.cells #[.pointer none, noS] 81)) ∧ Below w.heap.size w (w.alloc (.cells #[.pointer none, noS] 81))) := ⟨BUI.new w (Nat.le_refl _), below_new _ _⟩
  clear ho hp hf hR
  go_enter Tryd.func30, Tryd.ntmps30
  go_upto_region 3 with fail
  generalize w.alloc (.cells #[.pointer none, noS] 81) = w1 at *
  go_wp2_with fail
  go_loopw [10] (fun s10 wr => ∃ (i : Nat), i ≤ L.length ∧ s10 = .int .i64 (i : Int) ∧ BUI w.heap.size w.heap.size (layS ((L.take i).map Prod.fst)) wr ∧ Below w.heap.size w wr ∧ (layS ((L.take i).map Prod.fst)).length ≤ 65400 * i) (fun s10 _ => L.length - (intOf s10).toNat)
  case atStart => exact ⟨0, Nat.zero_le _, rfl, HS0.out.1, HS0.out.2, Nat.le_refl _⟩
  case round =>
    clear HS0
    obtain ⟨i, hi, rfl, hq, hbl, hsz⟩ := hrel
    have HQ : Hid (BUI w.heap.size w.heap.size (layS ((L.take i).map Prod.fst)) wr ∧ Below w.heap.size w wr) := ⟨hq, hbl⟩
    clear hq hbl
    by_cases hlt : i < L.length
    · obtain ⟨z, hz⟩ : ∃ z, L[i]? = some z := ⟨_, List.getElem?_eq_getElem hlt⟩
      obtain ⟨g, cg, eg, hc⟩ := sh_at HO.out i z hz
      injection eg with eg1 eg2 eg3
      subst eg1
      have hc := hc wr HQ.out.2
      obtain ⟨⟨hf1, hf2, hf3⟩, hf4⟩ := HFT.out z (List.mem_of_getElem? hz)
      have hf2b : (natL z.1.p.la).sum ≤ 255 * z.1.p.la.length := by
        have := jsum_le z.1.p.la hf1 z.1.p.la.length
        rw [List.take_of_length_le (Nat.le_refl _)] at this
        omega
      have hpa := (HP.out z (List.mem_of_getElem? hz)).la
      have HNX : Hid (layS ((L.take (i + 1)).map Prod.fst) = layS ((L.take i).map Prod.fst) ++ (hdG z.1.p ++ S2.lowL (oggN (hdG z.1.p ++ zer4 ++ tlG z.1.p (bytesOf z.1.b))) 4 ++ tlG z.1.p (bytesOf z.1.b))) := by
        show _ = _
        rw [List.take_add_one, hz, Option.toList_some, List.map_append, List.map_singleton, layS_snoc]
        rfl
      generalize layS ((L.take i).map Prod.fst) = lo at *
      obtain ⟨lp1, lp2, lp3, lp4⟩ := layP_parts z.1.p z.1.b hf4 hf1
      have hh := hd_parts z.1.p (by have := hf4.1; omega)
      have ht := tl_parts z.1.p z.1.b (by omega)
      clear hz eg2 eg3
      obtain ⟨⟨⟨fl, se, sq, gr, la⟩, bd⟩, ao, c⟩ := z
      dsimp only at *
      obtain ⟨⟨hn1, hn2⟩, ⟨hn3, hn4⟩, ⟨hn5, hn6⟩, ⟨hn7, hn8⟩, _⟩ := hf4
      dsimp only at *
      obtain ⟨fn, rfl⟩ : ∃ fn : Nat, fl = (fn : Int) := ⟨fl.toNat, by omega⟩
      obtain ⟨sn, rfl⟩ : ∃ sn : Nat, se = (sn : Int) := ⟨se.toNat, by omega⟩
      obtain ⟨qn, rfl⟩ : ∃ qn : Nat, sq = (qn : Int) := ⟨sq.toNat, by omega⟩
      rw [Int.toNat_natCast, Int.toNat_natCast, Int.toNat_natCast] at hh
      obtain ⟨hd, hhd⟩ : ∃ hd, hd = hdG ⟨(fn : Int), (sn : Int), (qn : Int), gr, la⟩ := ⟨_, rfl⟩
      obtain ⟨tl, htl⟩ : ∃ tl, tl = tlG ⟨(fn : Int), (sn : Int), (qn : Int), gr, la⟩ (bytesOf bd) := ⟨_, rfl⟩
      rw [← hhd] at HNX lp1 lp3 hh
      rw [← htl] at HNX lp2 lp4 ht
      have K1 : Hid (∀ w, Calls Tryd.prog 48 #[.int .i64 (fn : Int), .int .i64 1] w fun e w' => e = .returned (.string (textOf (S2.lowL fn 1))) ∧ Below w.heap.size w w') := fun w => j_le fn 1 (by omega) (by omega) (by omega) w
      have K2 : Hid (∀ w, Calls Tryd.prog 49 #[.int .i64 gr] w fun e w' => e = .returned (.string (textOf (layG gr))) ∧ Below w.heap.size w w') := fun w => j_layGranule gr hn3 hn4 w
      have K3 : Hid (∀ w, Calls Tryd.prog 48 #[.int .i64 (sn : Int), .int .i64 4] w fun e w' => e = .returned (.string (textOf (S2.lowL sn 4))) ∧ Below w.heap.size w w') := fun w => j_le sn 4 (by omega) (by omega) (by omega) w
      have K4 : Hid (∀ w, Calls Tryd.prog 48 #[.int .i64 (qn : Int), .int .i64 4] w fun e w' => e = .returned (.string (textOf (S2.lowL qn 4))) ∧ Below w.heap.size w w') := fun w => j_le qn 4 (by omega) (by omega) (by omega) w
      have K5 : Hid (∀ w, Calls Tryd.prog 48 #[.int .i64 (la.length : Int), .int .i64 1] w fun e w' => e = .returned (.string (textOf (S2.lowL la.length 1))) ∧ Below w.heap.size w w') := fun w => j_le la.length 1 (by omega) (by omega) (by omega) w
      have K6 : Hid (∀ wx, Below w.heap.size w wx → Calls Tryd.prog 50 #[.slice ao la.length c] wx fun e w' => e = .returned (.string (textOf (natL la))) ∧ Below wx.heap.size wx w') := fun wx hb => j_layLaces la ao c wx (hpa.below hb) hf1 hf3
      have z1 : (textOf (S2.lowL fn 1)).size = 1 := by rw [S2.textOf_size, S2.lowL_length]
      have z2 : (textOf (layG gr)).size = 8 := by
        rw [S2.textOf_size]
        unfold layG
        split
        · rfl
        · rw [S2.lowL_length]
      have z3 : (textOf (S2.lowL sn 4)).size = 4 := by rw [S2.textOf_size, S2.lowL_length]
      have z4 : (textOf (S2.lowL qn 4)).size = 4 := by rw [S2.textOf_size, S2.lowL_length]
      have z5 : (textOf (S2.lowL la.length 1)).size = 1 := by rw [S2.textOf_size, S2.lowL_length]
      have z6 : (textOf (natL la)).size = la.length := by rw [S2.textOf_size, natL_length]
      generalize textOf (S2.lowL fn 1) = P1 at *
      generalize textOf (layG gr) = P2 at *
      generalize textOf (S2.lowL sn 4) = P3 at *
      generalize textOf (S2.lowL qn 4) = P4 at *
      generalize textOf (S2.lowL la.length 1) = D1 at *
      generalize textOf (natL la) = D2 at *
      obtain ⟨M, hM⟩ : ∃ M, (⟨#[79, 103, 103, 83, 0]⟩ : ByteArray) = M := ⟨_, rfl⟩
      have zM : M.size = 5 := by rw [← hM]; rfl
      obtain ⟨A1, hA1⟩ : ∃ A1, M ++ P1 = A1 := ⟨_, rfl⟩
      have zA1 : A1.size = 6 := by rw [← hA1, ByteArray.size_append]; omega
      obtain ⟨A2, hA2⟩ : ∃ A2, A1 ++ P2 = A2 := ⟨_, rfl⟩
      have zA2 : A2.size = 14 := by rw [← hA2, ByteArray.size_append]; omega
      obtain ⟨A3, hA3⟩ : ∃ A3, A2 ++ P3 = A3 := ⟨_, rfl⟩
      have zA3 : A3.size = 18 := by rw [← hA3, ByteArray.size_append]; omega
      obtain ⟨A4, hA4⟩ : ∃ A4, A3 ++ P4 = A4 := ⟨_, rfl⟩
      have zA4 : A4.size = 22 := by rw [← hA4, ByteArray.size_append]; omega
      rw [hM, hA1, hA2, hA3, hA4] at hh
      obtain ⟨B1, hB1⟩ : ∃ B1, D1 ++ D2 = B1 := ⟨_, rfl⟩
      have zB1 : B1.size = 1 + la.length := by rw [← hB1, ByteArray.size_append]; omega
      obtain ⟨B2, hB2⟩ : ∃ B2, B1 ++ bd = B2 := ⟨_, rfl⟩
      have zB2 : B2.size = 1 + la.length + bd.size := by rw [← hB2, ByteArray.size_append]; omega
      rw [hB1, hB2] at ht
      rw [← hh] at lp1
      rw [← ht] at lp2
      have zbd : bd.size ≤ 65025 := by omega
      have HSM : Hid (∀ wx, S3.RulesAt wx → Calls Tryd.prog 51 #[.string A4, .string B2] wx fun e w' => e = .returned (.string (textOf (S2.lowL (oggN (hd ++ zer4 ++ tl)) 4))) ∧ Below wx.heap.size wx w') := fun wx hR => by
        have := j_sumOf A4 B2 (by omega) (by omega) wx hR
        rwa [lp1, lp2] at this
      have HSO : Hid (bytesOf (textOf (S2.lowL (oggN (hd ++ zer4 ++ tl)) 4)) = S2.lowL (oggN (hd ++ zer4 ++ tl)) 4 ∧ bytesOf A4 = hd ∧ bytesOf B2 = tl) := ⟨S2.bytesOf_textOf _ (S2.lowL_lt _ _), lp1, lp2⟩
      have zSO : (textOf (S2.lowL (oggN (hd ++ zer4 ++ tl)) 4)).size = 4 := by rw [S2.textOf_size, S2.lowL_length]
      have HLL : Hid ((S2.lowL (oggN (hd ++ zer4 ++ tl)) 4).length = 4 ∧ hd.length = 22 ∧ tl.length = 1 + la.length + bd.size) := ⟨S2.lowL_length _ _, lp3, lp4⟩
      generalize S2.lowL (oggN (hd ++ zer4 ++ tl)) 4 = so at *
      generalize textOf so = SO at *
      have z7 : la.length ≤ 255 := hf3
      clear hf1 hf2 hf2b hf3 hpa hhd htl lp1 lp2 lp3 lp4 hh ht hn1 hn2 hn3 hn4 hn5 hn6 hn7 hn8
      have c0 : wr.cell? ⟨g, i * 6, none⟩ = some (.int .i64 (fn : Int)) := hc 0 _ rfl
      have c1 := hc 1 _ rfl
      have c2 := hc 2 _ rfl
      have c3 := hc 3 _ rfl
      have c4 := hc 4 _ rfl
      have c5 := hc 5 _ rfl
      clear hc
      generalize la.length = n at *
      have HX : Hid (TxQ w w.heap.size wr.heap.size #[.int .i64 (fn : Int), .int .i64 (sn : Int), .int .i64 (qn : Int), .int .i64 gr, .slice ao n c, .string bd] lo (wr.alloc (.cells #[.int .i64 (fn : Int), .int .i64 (sn : Int), .int .i64 (qn : Int), .int .i64 gr, .slice ao n c, .string bd] 74))) := ⟨HQ.out.1.low (below_new _ _), Box.new _ _ _, below_on HQ.out.2 HQ.out.2.size (below_new _ _)⟩
      clear HQ
      go_upto_region 5 with fail
      generalize wr.alloc (.cells #[.int .i64 (fn : Int), .int .i64 (sn : Int), .int .i64 (qn : Int), .int .i64 gr, .slice ao n c, .string bd] 74) = wx at *
      clear c0 c1 c2 c3 c4 c5
      go_cut [6] from 14 to 55 (fun s6 wy => s6 = .string A4 ∧ TxQ w w.heap.size wr.heap.size #[.int .i64 (fn : Int), .int .i64 (sn : Int), .int .i64 (qn : Int), .int .i64 gr, .slice ao n c, .string bd] lo wy)
      case first =>
        refine wp_region_held_drew (S := fun wy => Hid (TxQ w w.heap.size wr.heap.size #[.int .i64 (fn : Int), .int .i64 (sn : Int), .int .i64 (qn : Int), .int .i64 gr, .slice ao n c, .string bd] lo wy)) (by kernel_rfl) (hid (HX.out.low (below_drew _))) (fun hS => ?_)
        refine wpAnyH_take (i := 0) (v := .pointer (some ⟨wr.heap.size, 0, none⟩)) rfl (by kernel_rfl) (by kernel_rfl) (by kernel_rfl) (fun _ _ _ h => h) (Or.inl ⟨by rfl, fun w hSw => by go_simp⟩) hS ?_
        simp only [Act.put, List.getElem_toArray, List.getElem_cons_succ, List.getElem_cons_zero, List.setIfInBounds_toArray, List.set_cons_zero, List.set_cons_succ]
        refine wpAnyH_take (i := 1) (v := .pointer (some ⟨wr.heap.size, 0, none⟩)) rfl (by kernel_rfl) (by kernel_rfl) (by kernel_rfl) (fun _ _ _ h => h) (Or.inl ⟨by rfl, fun w hSw => by go_simp⟩) hS ?_
        simp only [Act.put, List.getElem_toArray, List.getElem_cons_succ, List.getElem_cons_zero, List.setIfInBounds_toArray, List.set_cons_zero, List.set_cons_succ]
        refine wpAnyH_take (i := 2) (v := .int .i64 (fn : Int)) rfl (by kernel_rfl) (by kernel_rfl) (by kernel_rfl) (fun _ _ _ h => h) (Or.inl ⟨by rfl, fun w hSw => by have d := hSw.out.bx.c 0 _ rfl; go_simp⟩) hS ?_
        simp only [Act.put, List.getElem_toArray, List.getElem_cons_succ, List.getElem_cons_zero, List.setIfInBounds_toArray, List.set_cons_zero, List.set_cons_succ]
        refine wpAnyH_take (i := 5) (v := .pointer (some ⟨wr.heap.size, 0, none⟩)) rfl (by kernel_rfl) (by kernel_rfl) (by kernel_rfl) (fun _ _ _ h => h) (Or.inl ⟨by rfl, fun w hSw => by go_simp⟩) hS ?_
        simp only [Act.put, List.getElem_toArray, List.getElem_cons_succ, List.getElem_cons_zero, List.setIfInBounds_toArray, List.set_cons_zero, List.set_cons_succ]
        refine wpAnyH_take (i := 6) (v := .pointer (some ⟨wr.heap.size, 3, none⟩)) rfl (by kernel_rfl) (by kernel_rfl) (by kernel_rfl) (fun _ _ _ h => h) (Or.inl ⟨by rfl, fun w hSw => by go_simp⟩) hS ?_
        simp only [Act.put, List.getElem_toArray, List.getElem_cons_succ, List.getElem_cons_zero, List.setIfInBounds_toArray, List.set_cons_zero, List.set_cons_succ]
        refine wpAnyH_take (i := 7) (v := .int .i64 gr) rfl (by kernel_rfl) (by kernel_rfl) (by kernel_rfl) (fun _ _ _ h => h) (Or.inl ⟨by rfl, fun w hSw => by have d := hSw.out.bx.c 3 _ rfl; go_simp⟩) hS ?_
        simp only [Act.put, List.getElem_toArray, List.getElem_cons_succ, List.getElem_cons_zero, List.setIfInBounds_toArray, List.set_cons_zero, List.set_cons_succ]
        refine wpAnyH_take (i := 10) (v := .pointer (some ⟨wr.heap.size, 0, none⟩)) rfl (by kernel_rfl) (by kernel_rfl) (by kernel_rfl) (fun _ _ _ h => h) (Or.inl ⟨by rfl, fun w hSw => by go_simp⟩) hS ?_
        simp only [Act.put, List.getElem_toArray, List.getElem_cons_succ, List.getElem_cons_zero, List.setIfInBounds_toArray, List.set_cons_zero, List.set_cons_succ]
        refine wpAnyH_take (i := 11) (v := .pointer (some ⟨wr.heap.size, 1, none⟩)) rfl (by kernel_rfl) (by kernel_rfl) (by kernel_rfl) (fun _ _ _ h => h) (Or.inl ⟨by rfl, fun w hSw => by go_simp⟩) hS ?_
        simp only [Act.put, List.getElem_toArray, List.getElem_cons_succ, List.getElem_cons_zero, List.setIfInBounds_toArray, List.set_cons_zero, List.set_cons_succ]
        refine wpAnyH_take (i := 12) (v := .int .i64 (sn : Int)) rfl (by kernel_rfl) (by kernel_rfl) (by kernel_rfl) (fun _ _ _ h => h) (Or.inl ⟨by rfl, fun w hSw => by have d := hSw.out.bx.c 1 _ rfl; go_simp⟩) hS ?_
        simp only [Act.put, List.getElem_toArray, List.getElem_cons_succ, List.getElem_cons_zero, List.setIfInBounds_toArray, List.set_cons_zero, List.set_cons_succ]
        refine wpAnyH_take (i := 15) (v := .pointer (some ⟨wr.heap.size, 0, none⟩)) rfl (by kernel_rfl) (by kernel_rfl) (by kernel_rfl) (fun _ _ _ h => h) (Or.inl ⟨by rfl, fun w hSw => by go_simp⟩) hS ?_
        simp only [Act.put, List.getElem_toArray, List.getElem_cons_succ, List.getElem_cons_zero, List.setIfInBounds_toArray, List.set_cons_zero, List.set_cons_succ]
        refine wpAnyH_take (i := 16) (v := .pointer (some ⟨wr.heap.size, 2, none⟩)) rfl (by kernel_rfl) (by kernel_rfl) (by kernel_rfl) (fun _ _ _ h => h) (Or.inl ⟨by rfl, fun w hSw => by go_simp⟩) hS ?_
        simp only [Act.put, List.getElem_toArray, List.getElem_cons_succ, List.getElem_cons_zero, List.setIfInBounds_toArray, List.set_cons_zero, List.set_cons_succ]
        refine wpAnyH_take (i := 17) (v := .int .i64 (qn : Int)) rfl (by kernel_rfl) (by kernel_rfl) (by kernel_rfl) (fun _ _ _ h => h) (Or.inl ⟨by rfl, fun w hSw => by have d := hSw.out.bx.c 2 _ rfl; go_simp⟩) hS ?_
        simp only [Act.put, List.getElem_toArray, List.getElem_cons_succ, List.getElem_cons_zero, List.setIfInBounds_toArray, List.set_cons_zero, List.set_cons_succ]
        refine wpAnyH_ready (rs := [3]) (by kernel_rfl) (by simp) ?_
        refine AllReadyH.cons rfl (fun K hK => ?_) AllReadyH.nil
        go_simp
        refine (K1.out _).mono ?_
        rintro e w1 ⟨rfl, hb⟩
        refine hK.out _ _ (hid (hS.out.low hb)) (fun hS1 => ?_)
        clear hK K hb hS
        refine wpAnyH_take (i := 4) (v := .string A1) rfl (by kernel_rfl) (by kernel_rfl) (by kernel_rfl) (fun _ _ _ h => h) (Or.inl ⟨by rfl, fun w hSw => by go_simp⟩) hS1 ?_
        simp only [Act.put, List.getElem_toArray, List.getElem_cons_succ, List.getElem_cons_zero, List.setIfInBounds_toArray, List.set_cons_zero, List.set_cons_succ]
        refine wpAnyH_ready (rs := [8]) (by kernel_rfl) (by simp) ?_
        refine AllReadyH.cons rfl (fun K hK => ?_) AllReadyH.nil
        go_simp
        refine (K2.out _).mono ?_
        rintro e w2 ⟨rfl, hb⟩
        refine hK.out _ _ (hid (hS1.out.low hb)) (fun hS2 => ?_)
        clear hK K hb hS1
        refine wpAnyH_take (i := 9) (v := .string A2) rfl (by kernel_rfl) (by kernel_rfl) (by kernel_rfl) (fun _ _ _ h => h) (Or.inl ⟨by rfl, fun w hSw => by go_simp⟩) hS2 ?_
        simp only [Act.put, List.getElem_toArray, List.getElem_cons_succ, List.getElem_cons_zero, List.setIfInBounds_toArray, List.set_cons_zero, List.set_cons_succ]
        refine wpAnyH_ready (rs := [13]) (by kernel_rfl) (by simp) ?_
        refine AllReadyH.cons rfl (fun K hK => ?_) AllReadyH.nil
        go_simp
        refine (K3.out _).mono ?_
        rintro e w3 ⟨rfl, hb⟩
        refine hK.out _ _ (hid (hS2.out.low hb)) (fun hS3 => ?_)
        clear hK K hb hS2
        refine wpAnyH_take (i := 14) (v := .string A3) rfl (by kernel_rfl) (by kernel_rfl) (by kernel_rfl) (fun _ _ _ h => h) (Or.inl ⟨by rfl, fun w hSw => by go_simp⟩) hS3 ?_
        simp only [Act.put, List.getElem_toArray, List.getElem_cons_succ, List.getElem_cons_zero, List.setIfInBounds_toArray, List.set_cons_zero, List.set_cons_succ]
        refine wpAnyH_ready (rs := [18]) (by kernel_rfl) (by simp) ?_
        refine AllReadyH.cons rfl (fun K hK => ?_) AllReadyH.nil
        go_simp
        refine (K4.out _).mono ?_
        rintro e w4 ⟨rfl, hb⟩
        refine hK.out _ _ (hid (hS3.out.low hb)) (fun hS4 => ?_)
        clear hK K hb hS3
        refine wpAnyH_take (i := 19) (v := .string A4) rfl (by kernel_rfl) (by kernel_rfl) (by kernel_rfl) (fun _ _ _ h => h) (Or.inl ⟨by rfl, fun w hSw => by go_simp⟩) hS4 ?_
        simp only [Act.put, List.getElem_toArray, List.getElem_cons_succ, List.getElem_cons_zero, List.setIfInBounds_toArray, List.set_cons_zero, List.set_cons_succ]
        refine wpAnyH_take (i := 20) (v := .string A4) rfl (by kernel_rfl) (by kernel_rfl) (by kernel_rfl) (fun _ _ _ h => h) (Or.inl ⟨by rfl, fun w hSw => by go_simp⟩) hS4 ?_
        simp only [Act.put, List.getElem_toArray, List.getElem_cons_succ, List.getElem_cons_zero, List.setIfInBounds_toArray, List.set_cons_zero, List.set_cons_succ]
        refine wpAnyH_done (by kernel_rfl) ?_ _
        go_wp2_with fail
        go_meet
        exact ⟨rfl, hS4.out⟩
      case rest =>
        obtain ⟨rfl, hx0⟩ := hcut
        have HX1 := hid hx0
        clear hx0 HX K1 K2 K3 K4
        go_upto_region 6 with fail
        go_cut [7] from 34 to 55 (fun s7 wy => s7 = .string B2 ∧ TxQ w w.heap.size wr.heap.size #[.int .i64 (fn : Int), .int .i64 (sn : Int), .int .i64 (qn : Int), .int .i64 gr, .slice ao n c, .string bd] lo wy)
        case first =>
          refine wp_region_held_drew (S := fun wy => Hid (TxQ w w.heap.size wr.heap.size #[.int .i64 (fn : Int), .int .i64 (sn : Int), .int .i64 (qn : Int), .int .i64 gr, .slice ao n c, .string bd] lo wy)) (by kernel_rfl) (hid (HX1.out.low (below_drew _))) (fun hS => ?_)
          refine wpAnyH_take (i := 0) (v := .pointer (some ⟨wr.heap.size, 0, none⟩)) rfl (by kernel_rfl) (by kernel_rfl) (by kernel_rfl) (fun _ _ _ h => h) (Or.inl ⟨by rfl, fun w hSw => by go_simp⟩) hS ?_
          simp only [Act.put, List.getElem_toArray, List.getElem_cons_succ, List.getElem_cons_zero, List.setIfInBounds_toArray, List.set_cons_zero, List.set_cons_succ]
          refine wpAnyH_take (i := 1) (v := .pointer (some ⟨wr.heap.size, 4, none⟩)) rfl (by kernel_rfl) (by kernel_rfl) (by kernel_rfl) (fun _ _ _ h => h) (Or.inl ⟨by rfl, fun w hSw => by go_simp⟩) hS ?_
          simp only [Act.put, List.getElem_toArray, List.getElem_cons_succ, List.getElem_cons_zero, List.setIfInBounds_toArray, List.set_cons_zero, List.set_cons_succ]
          refine wpAnyH_take (i := 2) (v := .slice ao n c) rfl (by kernel_rfl) (by kernel_rfl) (by kernel_rfl) (fun _ _ _ h => h) (Or.inl ⟨by rfl, fun w hSw => by have d := hSw.out.bx.c 4 _ rfl; go_simp⟩) hS ?_
          simp only [Act.put, List.getElem_toArray, List.getElem_cons_succ, List.getElem_cons_zero, List.setIfInBounds_toArray, List.set_cons_zero, List.set_cons_succ]
          refine wpAnyH_take (i := 3) (v := .int .i64 (n : Int)) rfl (by kernel_rfl) (by kernel_rfl) (by kernel_rfl) (fun _ _ _ h => h) (Or.inl ⟨by rfl, fun w hSw => by go_simp⟩) hS ?_
          simp only [Act.put, List.getElem_toArray, List.getElem_cons_succ, List.getElem_cons_zero, List.setIfInBounds_toArray, List.set_cons_zero, List.set_cons_succ]
          refine wpAnyH_take (i := 5) (v := .pointer (some ⟨wr.heap.size, 0, none⟩)) rfl (by kernel_rfl) (by kernel_rfl) (by kernel_rfl) (fun _ _ _ h => h) (Or.inl ⟨by rfl, fun w hSw => by go_simp⟩) hS ?_
          simp only [Act.put, List.getElem_toArray, List.getElem_cons_succ, List.getElem_cons_zero, List.setIfInBounds_toArray, List.set_cons_zero, List.set_cons_succ]
          refine wpAnyH_take (i := 6) (v := .pointer (some ⟨wr.heap.size, 4, none⟩)) rfl (by kernel_rfl) (by kernel_rfl) (by kernel_rfl) (fun _ _ _ h => h) (Or.inl ⟨by rfl, fun w hSw => by go_simp⟩) hS ?_
          simp only [Act.put, List.getElem_toArray, List.getElem_cons_succ, List.getElem_cons_zero, List.setIfInBounds_toArray, List.set_cons_zero, List.set_cons_succ]
          refine wpAnyH_take (i := 7) (v := .slice ao n c) rfl (by kernel_rfl) (by kernel_rfl) (by kernel_rfl) (fun _ _ _ h => h) (Or.inl ⟨by rfl, fun w hSw => by have d := hSw.out.bx.c 4 _ rfl; go_simp⟩) hS ?_
          simp only [Act.put, List.getElem_toArray, List.getElem_cons_succ, List.getElem_cons_zero, List.setIfInBounds_toArray, List.set_cons_zero, List.set_cons_succ]
          refine wpAnyH_take (i := 10) (v := .pointer (some ⟨wr.heap.size, 5, none⟩)) rfl (by kernel_rfl) (by kernel_rfl) (by kernel_rfl) (fun _ _ _ h => h) (Or.inl ⟨by rfl, fun w hSw => by go_simp⟩) hS ?_
          simp only [Act.put, List.getElem_toArray, List.getElem_cons_succ, List.getElem_cons_zero, List.setIfInBounds_toArray, List.set_cons_zero, List.set_cons_succ]
          refine wpAnyH_take (i := 11) (v := .string bd) rfl (by kernel_rfl) (by kernel_rfl) (by kernel_rfl) (fun _ _ _ h => h) (Or.inl ⟨by rfl, fun w hSw => by have d := hSw.out.bx.c 5 _ rfl; go_simp⟩) hS ?_
          simp only [Act.put, List.getElem_toArray, List.getElem_cons_succ, List.getElem_cons_zero, List.setIfInBounds_toArray, List.set_cons_zero, List.set_cons_succ]
          refine wpAnyH_ready (rs := [4]) (by kernel_rfl) (by simp) ?_
          refine AllReadyH.cons rfl (fun K hK => ?_) AllReadyH.nil
          go_simp
          refine (K5.out _).mono ?_
          rintro e w5 ⟨rfl, hb⟩
          refine hK.out _ _ (hid (hS.out.low hb)) (fun hS1 => ?_)
          clear hK K hb hS
          refine wpAnyH_ready (rs := [8]) (by kernel_rfl) (by simp) ?_
          refine AllReadyH.cons rfl (fun K hK => ?_) AllReadyH.nil
          go_simp
          refine (K6.out _ hS1.out.bl).mono ?_
          rintro e w6 ⟨rfl, hb⟩
          refine hK.out _ _ (hid (hS1.out.low hb)) (fun hS2 => ?_)
          clear hK K hb hS1
          refine wpAnyH_take (i := 9) (v := .string B1) rfl (by kernel_rfl) (by kernel_rfl) (by kernel_rfl) (fun _ _ _ h => h) (Or.inl ⟨by rfl, fun w hSw => by go_simp <;> omega⟩) hS2 ?_
          simp only [Act.put, List.getElem_toArray, List.getElem_cons_succ, List.getElem_cons_zero, List.setIfInBounds_toArray, List.set_cons_zero, List.set_cons_succ]
          refine wpAnyH_take (i := 12) (v := .string B2) rfl (by kernel_rfl) (by kernel_rfl) (by kernel_rfl) (fun _ _ _ h => h) (Or.inl ⟨by rfl, fun w hSw => by go_simp <;> omega⟩) hS2 ?_
          simp only [Act.put, List.getElem_toArray, List.getElem_cons_succ, List.getElem_cons_zero, List.setIfInBounds_toArray, List.set_cons_zero, List.set_cons_succ]
          refine wpAnyH_take (i := 13) (v := .string B2) rfl (by kernel_rfl) (by kernel_rfl) (by kernel_rfl) (fun _ _ _ h => h) (Or.inl ⟨by rfl, fun w hSw => by go_simp⟩) hS2 ?_
          simp only [Act.put, List.getElem_toArray, List.getElem_cons_succ, List.getElem_cons_zero, List.setIfInBounds_toArray, List.set_cons_zero, List.set_cons_succ]
          refine wpAnyH_done (by kernel_rfl) ?_ _
          go_wp2_with fail
          go_meet
          exact ⟨rfl, hS2.out⟩
        case rest =>
          obtain ⟨rfl, hx0⟩ := hcut
          have HX2 := hid hx0
          have kw := hx0.bu.write A4 (by omega)
          clear hx0 HX1 K5 K6
          go_wp2_with fail
          refine kw.mono ?_
          rintro e w2 ⟨rfl, hw⟩
          have H2 : Hid (BUI w.heap.size w.heap.size (lo ++ bytesOf A4) w2 ∧ Below w.heap.size w w2) := ⟨hw.out.1, HX2.out.bl.trans hw.out.2.1⟩
          have km := HSM.out w2 (HR.out.below H2.out.2)
          clear kw hw HX2 HSM
          go_wp2_with fail
          refine km.mono ?_
          rintro e w3 ⟨rfl, hb⟩
          have H3 : Hid (BUI w.heap.size w.heap.size (lo ++ bytesOf A4) w3 ∧ Below w.heap.size w w3) := ⟨H2.out.1.low hb, below_on H2.out.2 H2.out.2.size hb⟩
          have kw := H3.out.1.write SO (by rw [List.length_append, bytesOf_length]; omega)
          clear hb km H2
          go_wp2_with fail
          refine kw.mono ?_
          rintro e w4 ⟨rfl, hw⟩
          have H4 : Hid (BUI w.heap.size w.heap.size (lo ++ bytesOf A4 ++ bytesOf SO) w4 ∧ Below w.heap.size w w4) := ⟨hw.out.1, H3.out.2.trans hw.out.2.1⟩
          have kw2 := H4.out.1.write B2 (by rw [List.length_append, List.length_append, bytesOf_length, bytesOf_length]; omega)
          clear hw kw H3
          go_wp2_with fail
          refine kw2.mono ?_
          rintro e w5 ⟨rfl, hw⟩
          have H5 : Hid (BUI w.heap.size w.heap.size (layS ((L.take (i + 1)).map Prod.fst)) w5 ∧ Below w.heap.size w w5 ∧ (layS ((L.take (i + 1)).map Prod.fst)).length ≤ 65400 * (i + 1)) := by
            refine ⟨?_, H4.out.2.trans hw.out.2.1, ?_⟩
            · rw [HNX.out, ← HSO.out.1, ← HSO.out.2.1, ← HSO.out.2.2]
              have := hw.out.1
              simpa only [List.append_assoc] using this
            · have := HLL.out
              rw [HNX.out]
              simp only [List.length_append]
              omega
          clear hw kw2 H4
          go_wp2_with fail
          go_roundw
          case rel => exact ⟨i + 1, by omega, by go_num, H5.out⟩
          case measure => simp [intOf]; omega
    · obtain rfl : i = L.length := by omega
      have kst := HQ.out.1.string
      rw [List.take_of_length_le (Nat.le_refl _)] at kst
      have HQ2 := hid HQ.out.2
      clear HQ
      go_wp2_with fail
      refine kst.mono ?_
      rintro e w2 ⟨rfl, hs⟩
      have HF : Hid (Below w.heap.size w w2) := HQ2.out.trans hs.out.2.1
      clear kst hs
      go_wp2_with fail
      go_ret
      exact ⟨rfl, HF.out⟩

end Go.Proofs.YtjkamannjgcmiaaDoor
