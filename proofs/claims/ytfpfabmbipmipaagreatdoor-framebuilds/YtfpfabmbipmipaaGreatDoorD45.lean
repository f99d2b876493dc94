/- Own text. -/
import Derived.Test.YtfpfabmbipmipaaGreatDoorD44
import Derived.LaidMore
import Derived.Stop.Joined
import Derived.Lib.LaidTab
import Derived.Lib.LaidU8
import Derived.Test.YtfpfabmbipmipaaGreatDoorCards
import Derived.Test.YtfpfabmbipmipaaGreatDoorTie
set_option linter.unusedSimpArgs false
set_option linter.unusedVariables false
set_option maxRecDepth 20000
set_option maxHeartbeats 12800000
namespace Go.Proofs.YtfpfabmbipmipaaGreatDoor
open Go.RowKit
theorem awake_c (w : World) (hL : Lay w) : Calls Tryz.prog 12 #[] w fun e w' => e = .returned (.bool true) /\ Lo w w' := by
 have HLay := kQ hL
 clear hL
 obtain ⟨t, h0, ht, hx, hby⟩ := ex_text
 have hn : (frL exF exI exP).length = 11 := ex_bytes.1
 have KB : Hid (∀ wx b2, Lay wx -> AW w wx -> RowsAt wx (some ⟨b2, 0, none⟩) exP -> G1 8 #[.agg #[.bool false, .int .i64 0, .int .i64 16, .int .i64 6, .int .i64 4, .int .i64 1, .int .i64 0, .slice (some ⟨w.heap.size, 0, none⟩) 1 1], infV 16 4608 0 0 ⟨8000, 1, 8⟩ 0 ⟨#[]⟩, .slice (some ⟨b2, 0, none⟩) 1 1] wx (.tuple #[.string t, .int .i64 0])) := fun wx b2 h1 h2 h3 => by
  have g := build_ok exF (some ⟨w.heap.size, 0, none⟩) 1 16 4608 0 0 exI 0 ⟨#[]⟩ (by decide) exP (some ⟨b2, 0, none⟩) 1 wx h1 h2.fm h3 ex_ok
  rw [h0] at g;exact g
 have KP : Hid (∀ wx, Lay wx -> Calls Tryz.prog 13 #[.string (t ++ ⟨#[120]⟩), infV 16 4608 0 0 ⟨8000, 1, 8⟩ 0 ⟨#[]⟩] wx fun en w' => ∃ ro rk so sk, en = .returned (.tuple #[.slice ro 1 rk, .agg #[.bool false, .int .i64 0, .int .i64 16, .int .i64 6, .int .i64 4, .int .i64 1, .int .i64 0, .slice so 1 sk], .int .i64 11, .int .i64 0]) /\ RowsAt w' ro exP /\ FmAt w' exF so sk /\ Lo wx w') := fun wx h1 => by
  have e : t ++ ⟨#[120]⟩ = exS := by rw [<- h0]; decide +kernel
  rw [e];exact parse_ex wx h1
 have KM : Hid (∀ wx, Lay wx -> G1 13 #[.string ⟨#[102, 76, 97, 67]⟩, infV 16 4608 0 0 ⟨8000, 1, 8⟩ 0 ⟨#[]⟩] wx (.tuple #[.slice none 0 0, .agg #[.bool false, .int .i64 0, .int .i64 0, .int .i64 0, .int .i64 0, .int .i64 0, .int .i64 0, .slice none 0 0], .int .i64 0, .int .i64 2])) := fun wx h1 =>
  parse_mal ⟨#[102, 76, 97, 67]⟩ (by decide) 16 4608 0 0 exI 0 ⟨#[]⟩ (by decide) wx h1
 have HMK : Hid (∀ wx : World, (Instr.makeSlice 56 (.int .i64 16) (.int .i64 16)).run Tryz.prog wx = .ok (.slice (some ⟨wx.heap.size, 0, none⟩) 16 16) (wx.alloc (.cells (madeCells #[.int .i64 0] 16) 3))) := fun wx => make_ints 16 (by decide) wx
 have HA0 : Hid (AW w ((w.alloc (.cells #[.int .i64 0, .int .i64 0, .int .i64 0, .int .i64 0, .int .i64 0, .slice none 0 0, .int .i64 0, .int .i64 0, .slice none 0 0, .slice none 0 0] 67)).alloc (.cells #[.bool false, .int .i64 0, .int .i64 16, .int .i64 6, .int .i64 4, .int .i64 1, .int .i64 0, .slice (some ⟨w.heap.size, 0, none⟩) 1 1] 24))) := by
  refine ⟨heap_two _ _ _, ?_, aQ.alloc (by simp) _⟩
  have hh := heap_alloc_new (w.alloc (.cells #[.int .i64 0, .int .i64 0, .int .i64 0, .int .i64 0, .int .i64 0, .slice none 0 0, .int .i64 0, .int .i64 0, .slice none 0 0, .slice none 0 0] 67)) (.cells #[.bool false, .int .i64 0, .int .i64 16, .int .i64 6, .int .i64 4, .int .i64 1, .int .i64 0, .slice (some ⟨w.heap.size, 0, none⟩) 1 1] 24);rw [show (w.alloc (.cells #[.int .i64 0, .int .i64 0, .int .i64 0, .int .i64 0, .int .i64 0, .slice none 0 0, .int .i64 0, .int .i64 0, .slice none 0 0, .slice none 0 0] 67)).heap.size = w.heap.size + 1 from by simp] at hh
  exact hh
 clear h0 hby hn
 go_enter Tryz.func12, Tryz.ntmps12
 go_upto_region 2 with fail
 generalize World.alloc _ _ = wa at *
 refine wp_region_held_drew (S := fun wx => AW w wx) (by kernel_rfl) (HA0.out.next (Below.refl _ _).drew) (fun hS => ?_)
 refine uQ 0 (.agg #[.bool false, .int .i64 0, .int .i64 16, .int .i64 6, .int .i64 4, .int .i64 1, .int .i64 0, .slice (some ⟨w.heap.size, 0, none⟩) 1 1]) rfl hS (Or.inl ⟨by rfl, fun w hSw => by obtain ⟨y0, y1, y2, y3, y4, y5, y6, y7⟩ := hSw.cells; go_simp⟩) ?_
 simp only [SL]
 generalize World.drew _ = wr at *
 refine wpAnyH_ready (rs := [1, 2]) (by kernel_rfl) (by simp) ?_
 refine (AllReadyH.cons rfl (fun K hK => ?_) (AllReadyH.cons rfl (fun K hK => ?_) AllReadyH.nil))
 focus
  go_simp;refine (info_spec wr).mono ?_;rintro en wi ⟨rfl, hbi⟩;refine hK.out _ _ (hS.next hbi) (fun hSi => ?_);clear hK K hbi
  try simp only [SL]
  refine wpAnyH_ready (rs := [2]) (by kernel_rfl) (by simp) ?_
  refine (AllReadyH.cons rfl (fun K hK => ?_) AllReadyH.nil);have hmk := HMK.out wi;go_simp;have HMm : Hid ((wi.alloc (.cells (madeCells #[.int .i64 0] 16) 3)).heap[wi.heap.size]? = some (.cells (madeCells #[.int .i64 0] 16) 3 (0, 0))) := heap_alloc_new _ _;refine hK.out _ _ (hSi.next aQ) (fun hSm => ?_);clear hK K hmk
  try simp only [SL]
  generalize hwm : wi.alloc _ = wm at *;generalize wi.heap.size = b1 at *;clear hwm;refine wpAnyH_ready (rs := [3]) (by kernel_rfl) (by simp) ?_
  refine (AllReadyH.cons rfl (fun K hK => ?_) AllReadyH.nil);go_simp;have HRb : Hid (RowsAt (wm.alloc (.cells #[.slice (some ⟨b1, 0, none⟩) 16 16] 56)) (some ⟨wm.heap.size, 0, none⟩) exP) := zero_rows (by rw [Below.block aQ _ (lt_of_block HMm.out)]; exact HMm.out) (heap_alloc_new _ _)
  refine hK.out _ _ (hSm.next aQ) (fun hSb => ?_);clear hK K
  try simp only [SL]
  generalize hwb : wm.alloc _ = wbb at *;generalize wm.heap.size = b2 at *;clear hwb;refine wpAnyH_ready (rs := [4]) (by kernel_rfl) (by simp) ?_
  refine (AllReadyH.cons rfl (fun K hK => ?_) AllReadyH.nil);go_simp;refine (KB.out wbb b2 (HLay.out.below hSb.low) hSb HRb.out).mono ?_;rintro en wb ⟨rfl, hbb⟩;have HA5 := kQ (hSb.next hbb);refine hK.out _ _ HA5.out (fun hS5 => ?_);clear hK K hbb
  try simp only [SL]
  refine vQ 5 (.tuple #[.string t, .int .i64 0]) hS5 ?_;simp only [SL];refine vQ 6 (.string t) hS5 ?_;simp only [SL];refine vQ 7 (.int .i64 0) hS5 ?_;simp only [SL]
 rotate_left
 focus
  have hmk := HMK.out wr;go_simp;have HMm : Hid ((wr.alloc (.cells (madeCells #[.int .i64 0] 16) 3)).heap[wr.heap.size]? = some (.cells (madeCells #[.int .i64 0] 16) 3 (0, 0))) := heap_alloc_new _ _;refine hK.out _ _ (hS.next aQ) (fun hSm => ?_);clear hK K hmk
  try simp only [SL]
  generalize hwm : wr.alloc _ = wm at *;generalize wr.heap.size = b1 at *;clear hwm;refine wpAnyH_ready (rs := [1, 3]) (by kernel_rfl) (by simp) ?_
  refine (AllReadyH.cons rfl (fun K hK => ?_) (AllReadyH.cons rfl (fun K hK => ?_) AllReadyH.nil))
  focus
   go_simp;refine (info_spec wm).mono ?_;rintro en wi ⟨rfl, hbi⟩;have HMi : Hid (wi.heap[b1]? = some (.cells (madeCells #[.int .i64 0] 16) 3 (0, 0))) := by show _ = _; rw [hbi.block _ (lt_of_block HMm.out)]; exact HMm.out
   refine hK.out _ _ (hSm.next hbi) (fun hSi => ?_);clear hK K hbi
   try simp only [SL]
   refine wpAnyH_ready (rs := [3]) (by kernel_rfl) (by simp) ?_
   refine (AllReadyH.cons rfl (fun K hK => ?_) AllReadyH.nil);go_simp;have HRb : Hid (RowsAt (wi.alloc (.cells #[.slice (some ⟨b1, 0, none⟩) 16 16] 56)) (some ⟨wi.heap.size, 0, none⟩) exP) := zero_rows (by rw [Below.block aQ _ (lt_of_block HMi.out)]; exact HMi.out) (heap_alloc_new _ _)
   refine hK.out _ _ (hSi.next aQ) (fun hSb => ?_);clear hK K
   try simp only [SL]
   generalize hwb : wi.alloc _ = wbb at *;generalize wi.heap.size = b2 at *;clear hwb;refine wpAnyH_ready (rs := [4]) (by kernel_rfl) (by simp) ?_
   refine (AllReadyH.cons rfl (fun K hK => ?_) AllReadyH.nil);go_simp;refine (KB.out wbb b2 (HLay.out.below hSb.low) hSb HRb.out).mono ?_;rintro en wb ⟨rfl, hbb⟩;have HA5 := kQ (hSb.next hbb);refine hK.out _ _ HA5.out (fun hS5 => ?_);clear hK K hbb
   try simp only [SL]
   refine vQ 5 (.tuple #[.string t, .int .i64 0]) hS5 ?_;simp only [SL];refine vQ 6 (.string t) hS5 ?_;simp only [SL];refine vQ 7 (.int .i64 0) hS5 ?_;simp only [SL]
  rotate_left
  focus
   go_simp;have HRb : Hid (RowsAt (wm.alloc (.cells #[.slice (some ⟨b1, 0, none⟩) 16 16] 56)) (some ⟨wm.heap.size, 0, none⟩) exP) := zero_rows (by rw [Below.block aQ _ (lt_of_block HMm.out)]; exact HMm.out) (heap_alloc_new _ _)
   refine hK.out _ _ (hSm.next aQ) (fun hSb => ?_);clear hK K
   try simp only [SL]
   generalize hwb : wm.alloc _ = wbb at *;generalize wm.heap.size = b2 at *;clear hwb;refine wpAnyH_ready (rs := [1]) (by kernel_rfl) (by simp) ?_
   refine (AllReadyH.cons rfl (fun K hK => ?_) AllReadyH.nil);go_simp;refine (info_spec wbb).mono ?_;rintro en wi ⟨rfl, hbi⟩;have HRi := kQ (HRb.out.below hbi);refine hK.out _ _ (hSb.next hbi) (fun hSi => ?_);clear hK K hbi
   try simp only [SL]
   refine wpAnyH_ready (rs := [4]) (by kernel_rfl) (by simp) ?_
   refine (AllReadyH.cons rfl (fun K hK => ?_) AllReadyH.nil);go_simp;refine (KB.out wi b2 (HLay.out.below hSi.low) hSi HRi.out).mono ?_;rintro en wb ⟨rfl, hbb⟩;have HA5 := kQ (hSi.next hbb);refine hK.out _ _ HA5.out (fun hS5 => ?_);clear hK K hbb
   try simp only [SL]
   refine vQ 5 (.tuple #[.string t, .int .i64 0]) hS5 ?_;simp only [SL];refine vQ 6 (.string t) hS5 ?_;simp only [SL];refine vQ 7 (.int .i64 0) hS5 ?_;simp only [SL]
  rotate_left
 rotate_left 2
 all_goals
  refine vQ 8 (.string t) hS5 ?_;simp only [SL];refine vQ 9 (.int .i64 0) hS5 ?_;simp only [SL];refine wpAnyH_done (by kernel_rfl) ?_ _
  clear hS5
  go_wp2_with fail
  refine (info_spec wb).mono ?_;rintro en wc ⟨rfl, hbc⟩;have HA6 := kQ (HA5.out.next hbc);clear hbc HA5
  go_wp2_with fail
  refine (KP.out wc (HLay.out.below HA6.out.low)).mono ?_;rintro en wd ⟨ro, rk, so, sk, rfl, hr7, hf7, hb7⟩;have HA7 : Hid (AW w (wd.alloc (.cells #[.bool false, .int .i64 0, .int .i64 16, .int .i64 6, .int .i64 4, .int .i64 1, .int .i64 0, .slice so 1 sk] 24))) := (HA6.out.next hb7).next aQ;have HR7 : Hid (RowsAt (wd.alloc (.cells #[.bool false, .int .i64 0, .int .i64 16, .int .i64 6, .int .i64 4, .int .i64 1, .int .i64 0, .slice so 1 sk] 24)) ro exP) := hr7.below aQ;have HF7 : Hid (FmAt (wd.alloc (.cells #[.bool false, .int .i64 0, .int .i64 16, .int .i64 6, .int .i64 4, .int .i64 1, .int .i64 0, .slice so 1 sk] 24)) exF so sk) := ⟨hf7.S.below aQ, hf7.sk_, hf7.num, hf7.size, hf7.sc, hf7.rc, hf7.wc, hf7.mo⟩;have HG7 : Hid ((wd.alloc (.cells #[.bool false, .int .i64 0, .int .i64 16, .int .i64 6, .int .i64 4, .int .i64 1, .int .i64 0, .slice so 1 sk] 24)).heap[wd.heap.size]? = some (.cells #[.bool false, .int .i64 0, .int .i64 16, .int .i64 6, .int .i64 4, .int .i64 1, .int .i64 0, .slice so 1 sk] 24 (0, 0))) := heap_alloc_new _ _;clear hr7 hf7 hb7 HA6
  go_upto_region 6 with fail
  generalize hwe : World.alloc _ _ = we at *;generalize wd.heap.size = gk at *;clear hwe
  go_wp2_with fail
  refine (info_spec we).mono ?_;rintro en wf ⟨rfl, hbf⟩;have HA8 := kQ (HA7.out.next hbf);have HR8 := kQ (HR7.out.below hbf);have HF8 := kQ (HF7.out.S.below hbf);have HG8 : Hid (wf.heap[gk]? = some (.cells #[.bool false, .int .i64 0, .int .i64 16, .int .i64 6, .int .i64 4, .int .i64 1, .int .i64 0, .slice so 1 sk] 24 (0, 0))) := by show _ = _; rw [hbf.block _ (lt_of_block HG7.out)]; exact HG7.out
  clear hbf HA7 HR7 HF7 HG7
  go_wp2_with fail
  refine (KM.out wf (HLay.out.below HA8.out.low)).mono ?_;rintro en wg ⟨rfl, hbg⟩;have hbh : Lo wf (wg.alloc (.cells #[.bool false, .int .i64 0, .int .i64 0, .int .i64 0, .int .i64 0, .int .i64 0, .int .i64 0, .slice none 0 0] 24)) := hbg.alloc hbg.size _;have HA9 := kQ (HA8.out.next hbh);have HR9 := kQ (HR8.out.below hbh);have HF9 := kQ (HF8.out.below hbh);have HG9 : Hid ((wg.alloc (.cells #[.bool false, .int .i64 0, .int .i64 0, .int .i64 0, .int .i64 0, .int .i64 0, .int .i64 0, .slice none 0 0] 24)).heap[gk]? = some (.cells #[.bool false, .int .i64 0, .int .i64 16, .int .i64 6, .int .i64 4, .int .i64 1, .int .i64 0, .slice so 1 sk] 24 (0, 0))) := (hbh.block _ (lt_of_block HG8.out)).trans HG8.out;clear hbg hbh HA8 HR8 HF8 HG8
  go_upto_region 7 with fail
  generalize World.alloc _ _ = wh at *;obtain ⟨rb, rf, rfl, hrow⟩ := HR9.out.lies (by decide)
  obtain ⟨a0, c0, e0, _⟩ := hrow 0 (by decide)
  have e0' : wh.cell? ⟨rb, rf, none⟩ = some (.slice a0 16 c0) := e0;clear e0 hrow;have ks := fr_same exF (some ⟨w.heap.size, 0, none⟩) so 1 sk wh HA9.out.fm.S HF9.out;obtain ⟨y0, y1, y2, y3, y4, y5, y6, y7⟩ := HA9.out.cells;have x0 : wh.cell? ⟨gk, 0, none⟩ = some (.bool false) := by rw [cell_row HG9.out]; rfl
  have x1 : wh.cell? ⟨gk, 1, none⟩ = some (.int .i64 0) := by rw [cell_row HG9.out]; rfl
  have x2 : wh.cell? ⟨gk, 2, none⟩ = some (.int .i64 16) := by rw [cell_row HG9.out]; rfl
  have x3 : wh.cell? ⟨gk, 3, none⟩ = some (.int .i64 6) := by rw [cell_row HG9.out]; rfl
  have x4 : wh.cell? ⟨gk, 4, none⟩ = some (.int .i64 4) := by rw [cell_row HG9.out]; rfl
  have x5 : wh.cell? ⟨gk, 5, none⟩ = some (.int .i64 1) := by rw [cell_row HG9.out]; rfl
  have x6 : wh.cell? ⟨gk, 6, none⟩ = some (.int .i64 0) := by rw [cell_row HG9.out]; rfl
  have x7 : wh.cell? ⟨gk, 7, none⟩ = some (.slice so 1 sk) := by rw [cell_row HG9.out]; rfl
  go_wp2_with fail
  refine ks.mono ?_;rintro en wk ⟨rfl, hbk⟩;have HL := kQ (HA9.out.low.trans (hbk.mono HA9.out.low.size))
 ·clear hbk ks
  go_wp2_with fail
  go_ret;exact ⟨rfl, HL.out⟩
 ·clear hbk ks
  go_wp2_with fail
  go_ret;exact ⟨rfl, HL.out⟩
 ·clear hbk ks
  go_wp2_with fail
  go_ret;exact ⟨rfl, HL.out⟩
end Go.Proofs.YtfpfabmbipmipaaGreatDoor
namespace Go.Proofs.YtfpfabmbipmipaaGreatDoor
open Go.ChangeShapes Go.WideShapes Go.ChangeAt Go.RowKit
theorem gRul : Tryz.prog.globalNamed (Rows.frameBackRow.laid.map (·.1))[0] = some 3 := by kernel_rfl
theorem gSiz : Tryz.prog.globalNamed (Rows.frameBackRow.laid.map (·.1))[1] = some 0 := by kernel_rfl
theorem gRat : Tryz.prog.globalNamed (Rows.frameBackRow.laid.map (·.1))[2] = some 1 := by kernel_rfl
theorem gWid : Tryz.prog.globalNamed (Rows.frameBackRow.laid.map (·.1))[3] = some 2 := by kernel_rfl
theorem tSiz : (Tryz.prog.globals[0]?).map (·.type) = some 171 := by kernel_rfl
theorem tRat : (Tryz.prog.globals[1]?).map (·.type) = some 171 := by kernel_rfl
theorem tWid : (Tryz.prog.globals[2]?).map (·.type) = some 172 := by kernel_rfl
theorem tRul : (Tryz.prog.globals[3]?).map (·.type) = some 225 := by kernel_rfl
theorem lc3 : Tryz.prog.cellsOf 3 = 1 := by kernel_rfl
theorem lc4 : Tryz.prog.cellsOf 4 = 1 := by kernel_rfl
theorem lc193 : Tryz.prog.cellsOf 193 = 1 := by kernel_rfl
theorem lc195 : Tryz.prog.cellsOf 195 = 5 := by kernel_rfl
theorem lc225 : Tryz.prog.cellsOf 225 = 20 := by kernel_rfl
theorem lc171 : Tryz.prog.cellsOf 171 = 16 := by kernel_rfl
theorem lc172 : Tryz.prog.cellsOf 172 = 8 := by kernel_rfl
theorem block_of_var {W : World} {s : String} {g : Nat} {cs : Array Value} (hg : Tryz.prog.globalNamed s = some g) (hv : W.var? Tryz.prog s = some cs) : ∃ t fz, W.heap[g]? = some (.cells cs t fz) := by
 simp only [World.var?, hg, Option.bind_some] at hv
 split at hv
 ·rename_i c t fz he
  simp only [Option.some.injEq] at hv;subst hv;exact ⟨t, fz, he⟩
 ·cases hv
theorem tab_of {W : World} {g : Nat} {cs : Array Value} {t : TypeId} {fz : _} {T : List Int} (hb : W.heap[g]? = some (.cells cs t fz)) (k : cs.toList = T.map fun z => Value.int .i64 z) : IntTab g T W := by
 intro j hj
 rw [cell_row hb, <- Array.getElem?_toList, k, List.getElem?_map, List.getElem?_eq_getElem hj, List.getD_eq_getElem?_getD, List.getElem?_eq_getElem hj]
 rfl
section
variable {H : Type} {enc : TypeId × Value -> H} {w : World} {base : Nat} {sp : Nat -> Bool} {held : Bool} {fuel : Nat} {cs : List Value} {p : List MemPlace}
theorem rule_cells {a b c e : Int} {d : Bool} (h : DataW.trod enc Tryz.prog w base sp held fuel 195 cs = some (.agg [.lit (.int .i64 a), .lit (.int .i64 b), .lit (.int .u32 c), .lit (.bool d), .lit (.int .u32 e)], p)) :
  cs = [.int .i64 a, .int .i64 b, .int .u32 c, .bool d, .int .u32 e] := by
 obtain ⟨xs, n, rfl, hx, hl, hxl, hall⟩ := DataW.trod_struct Tryz.underlying195 h
 rw [lc195] at hl
 have hxs := congrArg Prod.fst hx
 simp only [DataW.agg.injEq] at hxs
 have h0 : DataW.trod enc Tryz.prog w base sp held n 3 ((cs.drop 0).take (Tryz.prog.cellsOf 3)) = xs[0]? := hall 0 _ rfl
 have h1 : DataW.trod enc Tryz.prog w base sp held n 3 ((cs.drop 1).take (Tryz.prog.cellsOf 3)) = xs[1]? := hall 1 _ rfl
 have h2 : DataW.trod enc Tryz.prog w base sp held n 193 ((cs.drop 2).take (Tryz.prog.cellsOf 193)) = xs[2]? := hall 2 _ rfl
 have h3 : DataW.trod enc Tryz.prog w base sp held n 4 ((cs.drop 3).take (Tryz.prog.cellsOf 4)) = xs[3]? := hall 3 _ rfl
 have h4 : DataW.trod enc Tryz.prog w base sp held n 193 ((cs.drop 4).take (Tryz.prog.cellsOf 193)) = xs[4]? := hall 4 _ rfl
 match cs, hl, xs, hxl, hxs with
 | [c0, c1, c2, c3, c4], _, [x0, x1, x2, x3, x4], _, hxs =>
  simp only [lc3, lc4, lc193, List.drop_zero, List.drop_succ_cons, List.take_succ_cons, List.take_zero, List.getElem?_cons_zero, List.getElem?_cons_succ] at h0 h1 h2 h3 h4;simp only [List.map_cons, List.map_nil, List.cons.injEq, and_true] at hxs;obtain ⟨z0, e0, f0, _⟩ := DataW.trod_int Tryz.underlying3 h0;obtain ⟨z1, e1, f1, _⟩ := DataW.trod_int Tryz.underlying3 h1;obtain ⟨z2, e2, f2, _⟩ := DataW.trod_int Tryz.underlying193 h2;obtain ⟨z3, e3, f3⟩ := DataW.trod_bool Tryz.underlying4 h3;obtain ⟨z4, e4, f4, _⟩ := DataW.trod_int Tryz.underlying193 h4;subst f0 f1 f2 f3 f4;simp only [DataW.lit.injEq, Lit.int.injEq, Lit.bool.injEq, true_and] at hxs;obtain ⟨g0, g1, g2, g3, g4⟩ := hxs;subst g0 g1 g2 g3 g4;simp only [List.cons.injEq, and_true] at e0 e1 e2 e3 e4;rw [e0, e1, e2, e3, e4]
end
theorem lay_of_laid {W : World} (h : laidMetH Tryz.prog Rows.frameBackRow.laid W) : Lay W := by
 rw [MakeChecks.laidMetH_plain _ _ _ (by kernel_rfl)] at h
 obtain ⟨ps, ⟨g0, t0, cs0, f0, p0, q0, hg0, ht0, hv0, hd0, hr0, _⟩, _, _⟩ := h
 obtain ⟨g1, t1, cs1, f1, p1, q1, hg1, ht1, hv1, hd1, hr1, _⟩ := hr0
 obtain ⟨g2, t2, cs2, f2, p2, q2, hg2, ht2, hv2, hd2, hr2, _⟩ := hr1
 obtain ⟨g3, t3, cs3, f3, p3, q3, hg3, ht3, hv3, hd3, _, _⟩ := hr2
 obtain rfl := Option.some.inj (gRul.symm.trans hg0)
 obtain rfl := Option.some.inj (tRul.symm.trans ht0)
 obtain rfl := Option.some.inj (gSiz.symm.trans hg1)
 obtain rfl := Option.some.inj (tSiz.symm.trans ht1)
 obtain rfl := Option.some.inj (gRat.symm.trans hg2)
 obtain rfl := Option.some.inj (tRat.symm.trans ht2)
 obtain rfl := Option.some.inj (gWid.symm.trans hg3)
 obtain rfl := Option.some.inj (tWid.symm.trans ht3)
 obtain ⟨u1, z1, b1⟩ := block_of_var hg1 hv1
 obtain ⟨u2, z2, b2⟩ := block_of_var hg2 hv2
 obtain ⟨u3, z3, b3⟩ := block_of_var hg3 hv3
 have hd1' : DataW.trod _ Tryz.prog W 0 _ _ f1 171 cs1.toList = some (Go.Lib.tabData .i64 sizT, p1) := hd1
 have hd2' : DataW.trod _ Tryz.prog W 0 _ _ f2 171 cs2.toList = some (Go.Lib.tabData .i64 ratT, p2) := hd2
 have hd3' : DataW.trod _ Tryz.prog W 0 _ _ f3 172 cs3.toList = some (Go.Lib.tabData .i64 widT, p3) := hd3
 refine ⟨tab_of b1 (Go.Lib.cells_of_tab Tryz.underlying171 Tryz.underlying3 lc3 lc171 hd1'), tab_of b2 (Go.Lib.cells_of_tab Tryz.underlying171 Tryz.underlying3 lc3 lc171 hd2'), tab_of b3 (Go.Lib.cells_of_tab Tryz.underlying172 Tryz.underlying3 lc3 lc172 hd3'), ?_⟩
 obtain ⟨t, fz, hb⟩ := block_of_var hg0 hv0
 have hlen : cs0.toList.length = 20 := by
  obtain ⟨xs, m1, _, _, hlen, _, _⟩ := DataW.trod_array Tryz.underlying225 hd0;rw [hlen, lc225]
 have key : cs0.toList = S3.rulesA.toList := by
  obtain ⟨k0, d0, r0, e0, t0⟩ := Lib.array_elem Tryz.underlying225 hd0 0 (by decide)
  obtain ⟨k1, d1, r1, e1, t1⟩ := Lib.array_elem Tryz.underlying225 hd0 1 (by decide)
  obtain ⟨k2, d2, r2, e2, t2⟩ := Lib.array_elem Tryz.underlying225 hd0 2 (by decide)
  obtain ⟨k3, d3, r3, e3, t3⟩ := Lib.array_elem Tryz.underlying225 hd0 3 (by decide)
  simp only [List.getElem?_cons_zero, List.getElem?_cons_succ, Option.some.injEq] at e0 e1 e2 e3;subst e0 e1 e2 e3;rw [lc195] at t0 t1 t2 t3;have a0 := rule_cells t0;have a1 := rule_cells t1;have a2 := rule_cells t2;have a3 := rule_cells t3;generalize cs0.toList = l at *
  have hsplit : l = (l.drop (0 * 5)).take 5 ++ ((l.drop (1 * 5)).take 5 ++ ((l.drop (2 * 5)).take 5 ++ (l.drop (3 * 5)).take 5)) := by
   match l, hlen with
   | [x0, x1, x2, x3, x4, x5, x6, x7, x8, x9, x10, x11, x12, x13, x14, x15, x16, x17, x18, x19], _ => rfl
  rw [hsplit, a0, a1, a2, a3];rfl
 exact ⟨t, fz, by rw [hb]; congr 2; exact Array.toList_inj.1 key⟩
theorem lay_of_laidB {W : World} (h : laidMetH Tryz.prog Rows.frameBuildsRow.laid W) : Lay W := lay_of_laid h
end Go.Proofs.YtfpfabmbipmipaaGreatDoor
