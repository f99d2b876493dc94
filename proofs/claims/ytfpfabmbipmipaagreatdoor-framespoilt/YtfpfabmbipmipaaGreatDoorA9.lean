/- Own text. -/
import Derived.Test.YtfpfabmbipmipaaGreatDoorA8
set_option linter.unusedSimpArgs false
set_option linter.unusedVariables false
set_option maxRecDepth 20000
set_option maxHeartbeats 12800000
namespace Go.Proofs.YtfpfabmbipmipaaGreatDoor
open Go.RowKit
structure ES (w : World) (c : Rc) (pa : OA) (pc : Nat) (ea : OA) (ec : Nat) (q : Nat) (N d r : Int) (p : Nat) (ao aj : OA) (B : List Nat) (wx : World) : Prop where
 wb : WB w p ao aj B (q + 1) wx
 bx : wx.heap[w.heap.size]? = some (.cells (riceC c pa pc ea ec) 65 (0, 0))
 bq : wx.heap[q]? = some (.cells #[.int .i64 N, .int .i64 d, .int .i64 r] 219 (0, 0))
 lt : w.heap.size < q
section
variable {w wx w' : World} {c : Rc} {pa : OA} {pc : Nat} {ea : OA} {ec : Nat} {q : Nat} {N d r : Int} {p : Nat} {ao aj aj' : OA} {B B' : List Nat}
theorem ES.start (h : CB w c pa pc ea ec q N d r wx) (hw : WrB w p ao B) : ES w c pa pc ea ec q N d r p ao ao B wx :=
 ⟨WB.start hw h.rb.below _ (lt_of_block h.box), h.rb.box, h.box, h.lt⟩
theorem ES.low (h : ES w c pa pc ea ec q N d r p ao aj B wx) (hb : Lo wx w') : ES w c pa pc ea ec q N d r p ao aj B w' :=
 ⟨h.wb.low hb, by rw [hb.block _ (lt_of_block h.bx)]; exact h.bx, by rw [hb.block _ (lt_of_block h.bq)]; exact h.bq, h.lt⟩
theorem ES.put (h : ES w c pa pc ea ec q N d r p ao aj B wx) (hw : WrB w' p aj' B') (hS : Stays (foot p aj) wx w') (hM : Moved wx.heap.size aj aj') : ES w c pa pc ea ec q N d r p ao aj' B' w' :=
 ⟨h.wb.put hw hS hM, by rw [h.wb.box hS _ (Nat.le_refl _) (by have := h.lt; omega)]; exact h.bx, by rw [h.wb.box hS _ (Nat.le_of_lt h.lt) (by omega)]; exact h.bq, h.lt⟩
theorem ES.cells (h : ES w c pa pc ea ec q N d r p ao aj B wx) : wx.cell? ⟨w.heap.size, 0, none⟩ = some (.int .i64 c.m) /\ wx.cell? ⟨w.heap.size, 1, none⟩ = some (.int .i64 c.o) /\ wx.cell? ⟨w.heap.size, 2, none⟩ = some (.slice pa c.P.length pc) /\ wx.cell? ⟨w.heap.size, 3, none⟩ = some (.slice ea c.E.length ec) /\ wx.cell? ⟨q, 0, none⟩ = some (.int .i64 N) /\ wx.cell? ⟨q, 1, none⟩ = some (.int .i64 d) /\ wx.cell? ⟨q, 2, none⟩ = some (.int .i64 r) := by
 obtain ⟨x0, x1, x2, x3⟩ := RB.of_box h.bx
 refine ⟨x0, x1, x2, x3, ?_, ?_, ?_⟩ <;> (rw [cell_of_row _ _ _ _ _ _ h.bq]; rfl)
end
theorem encode_chk (c : Rc) (l : List Int) (hs : ShX l) (pa : OA) (pc : Nat) (ea : OA) (ec : Nat) (lo : OA) (cap : Nat) (hc : l.length <= cap) (h0 : lo = none -> cap = 0) (p : Nat) (ao : OA) (B : List Nat) (h01 : Bits01 B) (hB : B.length <= 1300000000000) (w : World) (hr : RcAt w c pa ea) (hl : IntsAt w lo l) (hw : WrB w p ao B) (b r : Int) (hno : ¬ chkOk c b r) :
  Calls Tryz.prog 160 #[.pointer (some ⟨p, 0, none⟩), riceV c pa pc ea ec, .int .i64 b, .int .i64 r, .slice lo l.length cap] w fun en w' => en = .returned (.int .i64 60) /\ Lo w w' := by
 have HB0 : Hid (RB w c pa pc ea ec (w.alloc (.cells (riceC c pa pc ea ec) 65))) := RB.new w c pa pc ea ec
 have KC : Hid (∀ wx, Lo w wx -> G1 190 #[riceV c pa pc ea ec, .int .i64 b, .int .i64 r] wx (.int .i64 60)) := fun wx hb => (check_spec c b r pa pc ea ec wx (hr.below hb)).mono fun e w' hh => ⟨by rw [hh.1, chk_no hno], hh.2⟩
 clear hno hr hl hw hs
 go_enter Tryz.func160, Tryz.ntmps160
 go_wp2_with fail
 generalize w.alloc _ = wa at *
 refine (KC.out wa HB0.out.below).mono ?_
 rintro e w2 ⟨rfl, hb2⟩
 have HR2 := kQ ((HB0.out.next hb2).below)
 clear hb2
 go_wp2_with fail
 go_ret
 exact ⟨rfl, HR2.out⟩
theorem encode_fit (c : Rc) (l : List Int) (hs : ShX l) (pa : OA) (pc : Nat) (ea : OA) (ec : Nat) (lo : OA) (cap : Nat) (hc : l.length <= cap) (h0 : lo = none -> cap = 0) (p : Nat) (ao : OA) (B : List Nat) (h01 : Bits01 B) (hB : B.length <= 1300000000000) (w : World) (hr : RcAt w c pa ea) (hl : IntsAt w lo l) (hw : WrB w p ao B) (b o r : Nat) (h : Rok c b o r) (hf : fitB c b o r l = false) :
  Calls Tryz.prog 160 #[.pointer (some ⟨p, 0, none⟩), riceV c pa pc ea ec, .int .i64 (b : Int), .int .i64 (r : Int), .slice lo l.length cap] w fun en w' => en = .returned (.int .i64 60) /\ Lo w w' := by
 have HB0 : Hid (RB w c pa pc ea ec (w.alloc (.cells (riceC c pa pc ea ec) 65))) := RB.new w c pa pc ea ec
 have KC : Hid (∀ wx, Lo w wx -> G1 190 #[riceV c pa pc ea ec, .int .i64 (b : Int), .int .i64 (r : Int)] wx (.int .i64 0)) := fun wx hb => (check_spec c b r pa pc ea ec wx (hr.below hb)).mono fun e w' hh => ⟨by rw [hh.1, chk_yes h.chk], hh.2⟩
 have KU : Hid (∀ wx, G1 191 #[.int .i64 (b : Int), .int .i64 (r : Int), .int .i64 c.o] wx (.tuple #[cutV ((2 ^ o : Nat) : Int) ((b / 2 ^ o : Nat) : Int) (r : Int), .bool true])) := fun wx => by rw [h.ho]; exact cutOf_yes b o r h.cut wx
 have KF : Hid (∀ wx, Lo w wx -> G1 192 #[riceV c pa pc ea ec, cutV ((2 ^ o : Nat) : Int) ((b / 2 ^ o : Nat) : Int) (r : Int), .slice lo l.length cap] wx (.bool (fitB c b o r l))) := fun wx hb => fit_spec c b o r l h hs pa pc ea ec lo cap hc h0 wx (hr.below hb) (hl.below hb)
 rw [hf] at KF
 clear hr hl hw hs h hf
 generalize hpn : 2 ^ o = N at *
 generalize b / N = d at *
 clear hpn
 go_enter Tryz.func160, Tryz.ntmps160
 go_wp2_with fail
 generalize w.alloc _ = wa at *
 refine (KC.out wa HB0.out.below).mono ?_
 rintro e w2 ⟨rfl, hb2⟩
 have HR2 := kQ (HB0.out.next hb2)
 clear hb2
 have x1 := HR2.out.c1
 go_wp2_with fail
 refine (KU.out w2).mono ?_
 rintro e w3 ⟨rfl, hb3⟩
 have HC4 : Hid (CB w c pa pc ea ec w3.heap.size (N : Int) (d : Int) (r : Int) (w3.alloc (.cells #[.int .i64 (N : Int), .int .i64 (d : Int), .int .i64 (r : Int)] 219))) := CB.new (HR2.out.next hb3) _ _ _
 clear hb3 x1 HR2
 have x0 := HC4.out.rb.c0
 have x1 := HC4.out.rb.c1
 have x2 := HC4.out.rb.c2
 have x3 := HC4.out.rb.c3
 go_wp2_with fail
 generalize hwd : w3.alloc _ = wd at *
 generalize w3.heap.size = q at *
 clear hwd x0 x1 x2 x3
 refine (KF.out wd HC4.out.rb.below).mono ?_
 rintro e w5 ⟨rfl, hb5⟩
 have HC5 := kQ (HC4.out.next hb5)
 clear hb5 HC4
 go_wp2_with fail
 go_ret
 exact ⟨rfl, HC5.out.rb.below⟩
theorem encode_ok (c : Rc) (l : List Int) (hs : ShX l) (pa : OA) (pc : Nat) (ea : OA) (ec : Nat) (lo : OA) (cap : Nat) (hc : l.length <= cap) (h0 : lo = none -> cap = 0) (p : Nat) (ao : OA) (B : List Nat) (h01 : Bits01 B) (hB : B.length <= 1300000000000) (w : World) (hr : RcAt w c pa ea) (hl : IntsAt w lo l) (hw : WrB w p ao B) (a1 : Apart p ao pa c.P) (a2 : Apart p ao ea c.E) (a3 : Apart p ao lo l) (b o r : Nat) (h : Rok c b o r) (hf : fitB c b o r l = true) :
  Calls Tryz.prog 160 #[.pointer (some ⟨p, 0, none⟩), riceV c pa pc ea ec, .int .i64 (b : Int), .int .i64 (r : Int), .slice lo l.length cap] w fun en w' => en = .returned (.int .i64 0) /\ ∃ ao', WrB w' p ao' (B ++ encB c b r l) /\ Stays (foot p ao) w w' /\ Moved w.heap.size ao ao' := by
 have HB0 : Hid (RB w c pa pc ea ec (w.alloc (.cells (riceC c pa pc ea ec) 65))) := RB.new w c pa pc ea ec
 have KC : Hid (∀ wx, Lo w wx -> G1 190 #[riceV c pa pc ea ec, .int .i64 (b : Int), .int .i64 (r : Int)] wx (.int .i64 0)) := fun wx hb => (check_spec c b r pa pc ea ec wx (hr.below hb)).mono fun e w' hh => ⟨by rw [hh.1, chk_yes h.chk], hh.2⟩
 have KU : Hid (∀ wx, G1 191 #[.int .i64 (b : Int), .int .i64 (r : Int), .int .i64 c.o] wx (.tuple #[cutV ((2 ^ o : Nat) : Int) ((b / 2 ^ o : Nat) : Int) (r : Int), .bool true])) := fun wx => by rw [h.ho]; exact cutOf_yes b o r h.cut wx
 have KF : Hid (∀ wx, Lo w wx -> G1 192 #[riceV c pa pc ea ec, cutV ((2 ^ o : Nat) : Int) ((b / 2 ^ o : Nat) : Int) (r : Int), .slice lo l.length cap] wx (.bool (fitB c b o r l))) := fun wx hb => fit_spec c b o r l h hs pa pc ea ec lo cap hc h0 wx (hr.below hb) (hl.below hb)
 rw [hf] at KF
 obtain ⟨hlen, hfit⟩ := (fitB_iff c b o r l).1 hf
 have hot : c.o.toNat = o := by have := h.ho; omega
 have HEB : Hid (encB c b r l = putB c.m 2 ++ putB c.o 4 ++ partsB c b o r l (2 ^ o)) := by show _ = _; unfold encB; rw [hot]
 have hm0 := h.m0
 have hm1 := h.m1
 have ho15 := h.cut.o15
 have hco := h.ho
 have HW := kQ hw
 have hl5 := hs.2
 have hp15 := pow15 o ho15
 have HLB : Hid (∀ n, n <= 2 ^ o -> (B ++ putB c.m 2 ++ putB c.o 4 ++ partsB c b o r l n).length <= 2700000000000) := fun n hn => by
  have h1 := parts_room c hm1 h.cut l hlen n hn hl5
  have h2 := putB_short c.m 2 (by omega)
  have h3 := putB_short c.o 4 (by omega)
  simp only [List.length_append]
  omega
 have H01 : Hid (∀ n, Bits01 (B ++ putB c.m 2 ++ putB c.o 4 ++ partsB c b o r l n)) := fun n => (((h01.append (putB_01 _ _)).append (putB_01 _ _)).append (partsB_01 _ _ _ _ _ _))
 have HPS : Hid (∀ n, partsB c b o r l (n + 1) = partsB c b o r l n ++ (headB c.m (c.P.getD n 0) (c.E.getD n 0) ++ numsB (c.P.getD n 0) (c.E.getD n 0) (partN l b o r n))) := fun n => partsB_succ c b o r l n
 have HKH : Hid (∀ (j : Nat) aj BJ wx q' N' d' r', j < 2 ^ o -> Bits01 BJ -> BJ.length <= 3000000000000 -> Hid (ES w c pa pc ea ec q' N' d' r' p ao aj BJ wx) -> Calls Tryz.prog 193 #[.pointer (some ⟨p, 0, none⟩), riceV c pa pc ea ec, .int .i64 (j : Int)] wx fun en w' => en = .returned (.tuple #[]) /\ ∃ ao', Hid (ES w c pa pc ea ec q' N' d' r' p ao ao' (BJ ++ headB c.m (c.P.getD j 0) (c.E.getD j 0)) w')) := fun j aj BJ wx q' N' d' r' hj hb hl hE =>
  (writeHead_spec c b o r j h hj pa pc ea ec p aj BJ hb (by omega) wx ⟨hE.out.wb.ints hr.P a1, hE.out.wb.ints hr.E a2, hr.m1, hr.m2, hr.o1, hr.o2⟩ hE.out.wb.wr (a1.moved hr.P hE.out.wb.mv) (a2.moved hr.E hE.out.wb.mv)).mono fun e w' hh => by
   obtain ⟨h1, ao', h2, h3, h4⟩ := hh
   exact ⟨h1, ao', hE.out.put h2 h3 h4⟩
 have HKQ : Hid (∀ (j : Nat) aj BJ wx q' N' r', j < 2 ^ o -> Hid (ES w c pa pc ea ec q' N' ((b / 2 ^ o : Nat) : Int) r' p ao aj BJ wx) -> Calls Tryz.prog 195 #[cutV N' ((b / 2 ^ o : Nat) : Int) (r : Int), .slice lo l.length cap, .int .i64 (j : Int)] wx fun en w' => ∃ xo, en = .returned (.slice xo (partN l b o r j).length (partN l b o r j).length) /\ Hid (ES w c pa pc ea ec q' N' ((b / 2 ^ o : Nat) : Int) r' p ao aj BJ w') /\ Hid (IntsAt w' xo (partN l b o r j) /\ Apart p aj xo (partN l b o r j))) := fun j aj BJ wx q' N' r' hj hE =>
  (partL_spec l b o r j h.cut hj lo cap hlen hc h0 N' wx (hE.out.wb.ints hl a3)).mono fun e w' hh => by
   obtain ⟨xo, h1, h2, h3, h4, _⟩ := hh
   exact ⟨xo, h1, hE.out.low h2, h3, (a3.moved hl hE.out.wb.mv).part h4 (fun hp => by
    have : (partN l b o r j).length <= l.length := by unfold partN; rw [List.length_take, List.length_drop]; omega
    omega)⟩
 have HKW : Hid (∀ (j : Nat) aj BJ wx q' N' d' r' xo, j < 2 ^ o -> Bits01 BJ -> BJ.length <= 3000000000000 -> Hid (ES w c pa pc ea ec q' N' d' r' p ao aj BJ wx) -> Hid (IntsAt wx xo (partN l b o r j) /\ Apart p aj xo (partN l b o r j)) -> Calls Tryz.prog 194 #[.pointer (some ⟨p, 0, none⟩), riceV c pa pc ea ec, .int .i64 (j : Int), .slice xo (partN l b o r j).length (partN l b o r j).length] wx fun en w' => en = .returned (.tuple #[]) /\ ∃ ao', Hid (ES w c pa pc ea ec q' N' d' r' p ao ao' (BJ ++ numsB (c.P.getD j 0) (c.E.getD j 0) (partN l b o r j)) w')) := fun j aj BJ wx q' N' d' r' xo hj hb hl2 hE hX =>
  (writePart_spec c b o r j h hj (partN l b o r j) (hfit j hj) pa pc ea ec xo _ p aj BJ hb (by
    have : (partN l b o r j).length <= l.length := by unfold partN; rw [List.length_take, List.length_drop]; omega
    omega) wx ⟨hE.out.wb.ints hr.P a1, hE.out.wb.ints hr.E a2, hr.m1, hr.m2, hr.o1, hr.o2⟩ hX.out.1 hE.out.wb.wr (a1.moved hr.P hE.out.wb.mv) (a2.moved hr.E hE.out.wb.mv) hX.out.2).mono fun e w' hh => by
   obtain ⟨h1, ao', h2, h3, h4⟩ := hh
   exact ⟨h1, ao', hE.out.put h2 h3 h4⟩
 have HCO := kQ hco
 have hc0 : 0 <= c.o := by omega
 have hc1 : c.o <= 15 := by omega
 clear hr hl hw hs h hf hfit hot a1 a2 a3 hco hlen
 generalize hpn : 2 ^ o = N at *
 generalize b / N = d at *
 clear hpn
 go_enter Tryz.func160, Tryz.ntmps160
 go_wp2_with fail
 generalize w.alloc _ = wa at *
 refine (KC.out wa HB0.out.below).mono ?_
 rintro e w2 ⟨rfl, hb2⟩
 have HR2 := kQ (HB0.out.next hb2)
 clear hb2
 have x1 := HR2.out.c1
 go_wp2_with fail
 refine (KU.out w2).mono ?_
 rintro e w3 ⟨rfl, hb3⟩
 have HC4 : Hid (CB w c pa pc ea ec w3.heap.size (N : Int) (d : Int) (r : Int) (w3.alloc (.cells #[.int .i64 (N : Int), .int .i64 (d : Int), .int .i64 (r : Int)] 219))) := CB.new (HR2.out.next hb3) _ _ _
 clear hb3 x1 HR2
 have x0 := HC4.out.rb.c0
 have x1 := HC4.out.rb.c1
 have x2 := HC4.out.rb.c2
 have x3 := HC4.out.rb.c3
 go_wp2_with fail
 generalize hwd : w3.alloc _ = wd at *
 generalize w3.heap.size = q at *
 clear hwd x0 x1 x2 x3
 refine (KF.out wd HC4.out.rb.below).mono ?_
 rintro e w5 ⟨rfl, hb5⟩
 have HC5 := kQ (HC4.out.next hb5)
 clear hb5 HC4
 have HE5 : Hid (ES w c pa pc ea ec q (N : Int) (d : Int) (r : Int) p ao ao B w5) := ES.start HC5.out HW.out
 clear HC5 KC KU KF
 obtain ⟨x0, x1, x2, x3, y0, y1, y2⟩ := HE5.out.cells
 have kp := wput_all w5 ao B p c.m 2 (by omega) (by omega) h01 (by omega) HE5.out.wb.wr
 go_wp2_with fail
 refine kp.mono ?_
 rintro e w6 ⟨rfl, ao6, hw6, hs6, hv6⟩
 have HE6 := kQ (HE5.out.put hw6 hs6 hv6)
 clear hw6 hs6 hv6 kp x0 x1 x2 x3 y0 y1 y2 HE5
 obtain ⟨x0, x1, x2, x3, y0, y1, y2⟩ := HE6.out.cells
 have kp := wput_all w6 ao6 (B ++ putB c.m 2) p c.o 4 (by omega) (by omega) (h01.append (putB_01 _ _)) (by rw [List.length_append]; have := putB_short c.m 2 (by omega); omega) HE6.out.wb.wr
 have hcw : IntKind.u64.wrap c.o = c.o := by rw [IntKind.wrap_u64]; omega
 go_wp2_with fail
 refine kp.mono ?_
 rintro e w7 ⟨rfl, ao7, hw7, hs7, hv7⟩
 have HE7 := kQ (HE6.out.put hw7 hs7 hv7)
 clear hw7 hs7 hv7 kp x0 x1 x2 x3 y0 y1 y2 HE6 hcw hc0 hc1
 obtain ⟨x0, x1, x2, x3, y0, y1, y2⟩ := HE7.out.cells
 have hn32 := hp15.2
 go_wp2_with fail
 clear x0 x1 x2 x3 y0 y1 y2
 go_loopw [14, 49] (fun s14 s49 wr => ∃ (j : Nat) (aj : OA), j <= N /\ s49 = .int .i64 (j : Int) /\ ES w c pa pc ea ec q (N : Int) (d : Int) (r : Int) p ao aj (B ++ putB c.m 2 ++ putB c.o 4 ++ partsB c b o r l j) wr) (fun _ s49 _ => N - (intOf s49).toNat)
 case atStart => exact ⟨0, ao7, Nat.zero_le _, rfl, by rw [partsB_zero, List.append_nil]; exact HE7.out⟩
 case round =>
  clear HE7
  obtain ⟨j, aj, hj, rfl, hes⟩ := hrel
  have HE := kQ hes
  clear hes
  by_cases hlt : j < N
  ·have HS1 : Hid (B ++ putB c.m 2 ++ putB c.o 4 ++ partsB c b o r l (j + 1) = B ++ putB c.m 2 ++ putB c.o 4 ++ partsB c b o r l j ++ headB c.m (c.P.getD j 0) (c.E.getD j 0) ++ numsB (c.P.getD j 0) (c.E.getD j 0) (partN l b o r j)) := by
    show _ = _
    rw [HPS.out j]
    simp only [List.append_assoc]
   have hlb := HLB.out j (by omega)
   have h01j := H01.out j
   have hhl := headB_len c.m (c.P.getD j 0) (c.E.getD j 0) hm1
   have h01h := headB_01 c.m (c.P.getD j 0) (c.E.getD j 0)
   generalize B ++ putB c.m 2 ++ putB c.o 4 ++ partsB c b o r l j = BJ at *
   have kh := HKH.out j aj BJ wr q (N : Int) (d : Int) (r : Int) hlt h01j (by omega) HE
   have KQ : Hid (∀ wx aj BJ, Hid (ES w c pa pc ea ec q (N : Int) (d : Int) (r : Int) p ao aj BJ wx) -> Calls Tryz.prog 195 #[cutV (N : Int) (d : Int) (r : Int), .slice lo l.length cap, .int .i64 (j : Int)] wx fun en w' => ∃ xo, en = .returned (.slice xo (partN l b o r j).length (partN l b o r j).length) /\ Hid (ES w c pa pc ea ec q (N : Int) (d : Int) (r : Int) p ao aj BJ w') /\ Hid (IntsAt w' xo (partN l b o r j) /\ Apart p aj xo (partN l b o r j))) := fun wx aj BJ hE => HKQ.out j aj BJ wx q (N : Int) (r : Int) hlt hE
   have KW : Hid (∀ wx aj xo, Hid (ES w c pa pc ea ec q (N : Int) (d : Int) (r : Int) p ao aj (BJ ++ headB c.m (c.P.getD j 0) (c.E.getD j 0)) wx) -> Hid (IntsAt wx xo (partN l b o r j) /\ Apart p aj xo (partN l b o r j)) -> Calls Tryz.prog 194 #[.pointer (some ⟨p, 0, none⟩), riceV c pa pc ea ec, .int .i64 (j : Int), .slice xo (partN l b o r j).length (partN l b o r j).length] wx fun en w' => en = .returned (.tuple #[]) /\ ∃ ao', Hid (ES w c pa pc ea ec q (N : Int) (d : Int) (r : Int) p ao ao' (BJ ++ headB c.m (c.P.getD j 0) (c.E.getD j 0) ++ numsB (c.P.getD j 0) (c.E.getD j 0) (partN l b o r j)) w')) := fun wx aj xo hE hX => HKW.out j aj _ wx q (N : Int) (d : Int) (r : Int) xo hlt (h01j.append h01h) (by rw [List.length_append]; omega) hE hX
   have HSC : Hid (∀ wx aj BJ, Hid (ES w c pa pc ea ec q (N : Int) (d : Int) (r : Int) p ao aj BJ wx) -> wx.cell? ⟨w.heap.size, 0, none⟩ = some (.int .i64 c.m) /\ wx.cell? ⟨w.heap.size, 1, none⟩ = some (.int .i64 c.o) /\ wx.cell? ⟨w.heap.size, 2, none⟩ = some (.slice pa c.P.length pc) /\ wx.cell? ⟨w.heap.size, 3, none⟩ = some (.slice ea c.E.length ec) /\ wx.cell? ⟨q, 0, none⟩ = some (.int .i64 (N : Int)) /\ wx.cell? ⟨q, 1, none⟩ = some (.int .i64 (d : Int)) /\ wx.cell? ⟨q, 2, none⟩ = some (.int .i64 (r : Int))) := fun wx aj BJ h => h.out.cells
   clear HKH HKQ HKW HPS HLB H01
   generalize partN l b o r j = X at *
   generalize headB c.m (c.P.getD j 0) (c.E.getD j 0) = HH at *
   generalize numsB (c.P.getD j 0) (c.E.getD j 0) X = NN at *
   obtain ⟨x0, x1, x2, x3, y0, y1, y2⟩ := HE.out.cells
   go_wp2_with fail
   refine kh.mono ?_
   rintro e w3 ⟨rfl, aj3, he3⟩
   clear x0 x1 x2 x3 y0 y1 y2 kh HE
   have HD3 : Hid (ES w c pa pc ea ec q (N : Int) (d : Int) (r : Int) p ao aj3 (BJ ++ HH) w3.drew) := he3.out.low dQ
   clear he3
   go_wp2_with fail
   go_region_held3 (fun wx => wx.cell? ⟨w.heap.size, 0, none⟩ = some (.int .i64 c.m) /\ wx.cell? ⟨w.heap.size, 1, none⟩ = some (.int .i64 c.o) /\ wx.cell? ⟨w.heap.size, 2, none⟩ = some (.slice pa c.P.length pc) /\ wx.cell? ⟨w.heap.size, 3, none⟩ = some (.slice ea c.E.length ec) /\ wx.cell? ⟨q, 0, none⟩ = some (.int .i64 (N : Int)) /\ wx.cell? ⟨q, 1, none⟩ = some (.int .i64 (d : Int)) /\ wx.cell? ⟨q, 2, none⟩ = some (.int .i64 (r : Int))) (exact HSC.out _ _ _ (by assumption))
    (first
     | (go_at_call 195; refine (KQ.out _ _ _ (by assumption)).mono ?_; rintro e w4 ⟨xo, rfl, h4, hx4⟩)
     | (go_at_call 194; refine (KW.out _ _ _ (by assumption) (by assumption)).mono ?_; rintro e w5 ⟨rfl, aj5, h5⟩))
   go_wp2_with fail
   go_roundw
   case rel => exact ⟨j + 1, aj5, by omega, by go_num, by rw [HS1.out]; exact h5.out⟩
   case measure => simp [intOf]; omega
  ·have HJN : Hid (j = N) := by show _ = _; omega
   go_wp2_with fail
   go_ret
   refine ⟨rfl, aj, ?_, HE.out.wb.st, HE.out.wb.mv⟩
   have hh := HE.out.wb.wr
   rw [HJN.out] at hh
   rw [HEB.out]
   simpa only [List.append_assoc] using hh
def rdE (s : ByteArray) (a : Nat) (k e : Int) : Int := if e = -1 then ricE s a k else if e = 0 then 0 else sgnE s a e
def rdV (s : ByteArray) (a : Nat) (k e : Int) : Int := if e = -1 then ricV s a k else if e = 0 then 0 else sgnV s a e
def rdA (s : ByteArray) (a : Nat) (k e : Int) : Nat := if e = -1 then ricA s a k else if e = 0 then a else sgnA s a e
theorem rdA_le (s : ByteArray) (a : Nat) (k e : Int) (h : a <= 8 * s.size) : rdA s a k e <= 8 * s.size := by
 unfold rdA; split
 ·exact ricA_le s a k h
 ·split
  ·exact h
  ·exact sgnA_le s a e h
def rdAll (s : ByteArray) (k e : Int) : Nat -> Nat -> Option (List Int × Nat)
 | 0, a => some ([], a)
 | n + 1, a => match rdAll s k e n a with
  | none => none
  | some (X, a1) => if rdE s a1 k e = 0 then some (X ++ [rdV s a1 k e], rdA s a1 k e) else none
theorem rdAll_none {s : ByteArray} {k e : Int} {n : Nat} {a : Nat} (m : Nat) (h : rdAll s k e n a = none) (hm : n <= m) : rdAll s k e m a = none := by
 induction m with
 | zero => rw [show n = 0 by omega] at h; exact h
 | succ m ih =>
  by_cases e1 : n = m + 1
  ·rw [<- e1]; exact h
  ·unfold rdAll; rw [ih (by omega)]
theorem rdAll_some {s : ByteArray} {k e : Int} {n : Nat} {a a1 : Nat} {X : List Int} (h : rdAll s k e n a = some (X, a1)) (h0 : rdE s a1 k e = 0) : rdAll s k e (n + 1) a = some (X ++ [rdV s a1 k e], rdA s a1 k e) := by
 unfold rdAll; rw [h]; simp only; rw [if_pos h0]
theorem rdAll_stop {s : ByteArray} {k e : Int} {n : Nat} {a a1 : Nat} {X : List Int} (h : rdAll s k e n a = some (X, a1)) (h0 : ¬ rdE s a1 k e = 0) : rdAll s k e (n + 1) a = none := by
 unfold rdAll; rw [h]; simp only; rw [if_neg h0]
theorem rdAll_len {s : ByteArray} {k e : Int} {n : Nat} {a a1 : Nat} {X : List Int} (h : rdAll s k e n a = some (X, a1)) : X.length = n := by
 induction n generalizing X a1 with
 | zero => unfold rdAll at h; cases h; rfl
 | succ n ih =>
  unfold rdAll at h
  cases hq : rdAll s k e n a with
  | none => rw [hq] at h; cases h
  | some p =>
   obtain ⟨Y, a2⟩ := p
   rw [hq] at h
   simp only at h
   split at h
   ·cases h; rw [List.length_append, ih hq]; rfl
   ·cases h
theorem rdAll_le {s : ByteArray} {k e : Int} {n : Nat} {a a1 : Nat} {X : List Int} (h : rdAll s k e n a = some (X, a1)) (ha : a <= 8 * s.size) : a1 <= 8 * s.size := by
 induction n generalizing X a1 with
 | zero => unfold rdAll at h; cases h; exact ha
 | succ n ih =>
  unfold rdAll at h
  cases hq : rdAll s k e n a with
  | none => rw [hq] at h; cases h
  | some p =>
   obtain ⟨Y, a2⟩ := p
   rw [hq] at h
   simp only at h
   split at h
   ·cases h; exact rdA_le _ _ _ _ (ih hq)
   ·cases h
theorem rdAll_zero {s : ByteArray} {k : Int} (n a : Nat) : rdAll s k 0 n a = some (List.replicate n 0, a) := by
 induction n with
 | zero => rfl
 | succ n ih =>
  unfold rdAll
  rw [ih]
  simp only
  have h1 : rdE s a k 0 = 0 := by unfold rdE; rw [if_neg (by decide), if_pos rfl]
  have h2 : rdV s a k 0 = 0 := by unfold rdV; rw [if_neg (by decide), if_pos rfl]
  have h3 : rdA s a k 0 = a := by unfold rdA; rw [if_neg (by decide), if_pos rfl]
  rw [if_pos h1, h2, h3, List.replicate_succ']
def rdHead (s : ByteArray) (a : Nat) (m : Int) : Option (Int × Int × Nat) :=
 if getE s a (4 + m) = 0 then
  if getV s a (4 + m) = 15 + 16 * m then
   (if getE s (getA s a (4 + m)) 5 = 0 then some (0, getV s (getA s a (4 + m)) 5, getA s (getA s a (4 + m)) 5) else none)
  else some (getV s a (4 + m), -1, getA s a (4 + m))
 else none
theorem getV_nat (s : ByteArray) (a : Nat) (k : Int) (h : getE s a k = 0) : getV s a k = (bitsAt s a k.toNat : Int) := by unfold getV; rw [if_pos h]
theorem getV_bound (s : ByteArray) (a : Nat) (k : Int) : 0 <= getV s a k /\ getV s a k < 2 ^ k.toNat := by
 have hp : (0 : Int) < 2 ^ k.toNat := Int.pow_pos (by decide)
 unfold getV; split
 ·have h := bitsAt_lt s a k.toNat
  have e : ((2 ^ k.toNat : Nat) : Int) = 2 ^ k.toNat := by simp
  refine ⟨by omega, ?_⟩
  rw [<- e]; omega
 ·exact ⟨by omega, by omega⟩
theorem getV_m (s : ByteArray) (a : Nat) (m : Int) (h0 : 0 <= m) (h1 : m <= 1) : 0 <= getV s a (4 + m) /\ getV s a (4 + m) <= 15 + 16 * m := by
 have h := getV_bound s a (4 + m)
 have hp4 : (2 : Int) ^ (4 + m).toNat = 16 + 16 * m := by
  rcases (show m = 0 ∨ m = 1 by omega) with e | e <;> rw [e] <;> rfl
 rw [hp4] at h
 omega
theorem getV_5 (s : ByteArray) (a : Nat) : 0 <= getV s a 5 /\ getV s a 5 <= 31 := by
 have h := getV_bound s a 5
 have hp : (2 : Int) ^ (5 : Int).toNat = 32 := rfl
 rw [hp] at h; omega
theorem getV_4 (s : ByteArray) (a : Nat) : 0 <= getV s a 4 /\ getV s a 4 <= 15 := by
 have h := getV_bound s a 4
 have hp : (2 : Int) ^ (4 : Int).toNat = 16 := rfl
 rw [hp] at h; omega
theorem getV_2 (s : ByteArray) (a : Nat) : 0 <= getV s a 2 /\ getV s a 2 <= 3 := by
 have h := getV_bound s a 2
 have hp : (2 : Int) ^ (2 : Int).toNat = 4 := rfl
 rw [hp] at h; omega
theorem rdHead_may {s : ByteArray} {a : Nat} {m k e : Int} {a1 : Nat} (h0 : 0 <= m) (h1 : m <= 1) (h : rdHead s a m = some (k, e, a1)) : mayOk m k e := by
 have hv := getV_m s a m h0 h1
 unfold rdHead at h
 split at h
 ·split at h
  ·split at h
   ·cases h
    have := getV_5 s (getA s a (4 + m))
    unfold mayOk; omega
   ·cases h
  ·cases h
   unfold mayOk; omega
 ·cases h
theorem rdHead_le {s : ByteArray} {a : Nat} {m k e : Int} {a1 : Nat} (ha : a <= 8 * s.size) (h : rdHead s a m = some (k, e, a1)) : a1 <= 8 * s.size := by
 unfold rdHead at h
 split at h
 ·split at h
  ·split at h
   ·cases h; exact getA_le _ _ _ (getA_le _ _ _ ha)
   ·cases h
  ·cases h; exact getA_le _ _ _ ha
 ·cases h
structure Dec where
 L : List Int
 P : List Int
 E : List Int
 a : Nat
def rdParts (s : ByteArray) (m : Int) (b o r : Nat) : Nat -> Nat -> Option Dec
 | 0, a => some ⟨[], [], [], a⟩
 | i + 1, a => match rdParts s m b o r i a with
  | none => none
  | some d => match rdHead s d.a m with
   | none => none
   | some (k, e, a1) => match rdAll s k e (frN b o r (i + 1) - frN b o r i) a1 with
    | none => none
    | some (X, a2) => some ⟨d.L ++ X, d.P ++ [k], d.E ++ [e], a2⟩
section
variable {s : ByteArray} {m : Int} {b o r i a : Nat} {d : Dec}
theorem rdParts_none (n : Nat) (h : rdParts s m b o r i a = none) (hn : i <= n) : rdParts s m b o r n a = none := by
 induction n with
 | zero => rw [show i = 0 by omega] at h; exact h
 | succ n ih =>
  by_cases e1 : i = n + 1
  ·rw [<- e1]; exact h
  ·unfold rdParts; rw [ih (by omega)]
theorem rdParts_head (h : rdParts s m b o r i a = some d) (hh : rdHead s d.a m = none) : rdParts s m b o r (i + 1) a = none := by
 unfold rdParts; rw [h]; simp only; rw [hh]
theorem rdParts_nums {k e : Int} {a1 : Nat} (h : rdParts s m b o r i a = some d) (hh : rdHead s d.a m = some (k, e, a1)) (hx : rdAll s k e (frN b o r (i + 1) - frN b o r i) a1 = none) : rdParts s m b o r (i + 1) a = none := by
 unfold rdParts; rw [h]; simp only; rw [hh]; simp only; rw [hx]
theorem rdParts_some {k e : Int} {a1 a2 : Nat} {X : List Int} (h : rdParts s m b o r i a = some d) (hh : rdHead s d.a m = some (k, e, a1)) (hx : rdAll s k e (frN b o r (i + 1) - frN b o r i) a1 = some (X, a2)) : rdParts s m b o r (i + 1) a = some ⟨d.L ++ X, d.P ++ [k], d.E ++ [e], a2⟩ := by
 unfold rdParts; rw [h]; simp only; rw [hh]; simp only; rw [hx]
theorem rdParts_inv (h : rdParts s m b o r (i + 1) a = some d) : ∃ d0 k e a1 X, rdParts s m b o r i a = some d0 /\ rdHead s d0.a m = some (k, e, a1) /\ rdAll s k e (frN b o r (i + 1) - frN b o r i) a1 = some (X, d.a) /\ d.L = d0.L ++ X /\ d.P = d0.P ++ [k] /\ d.E = d0.E ++ [e] := by
 unfold rdParts at h
 cases h1 : rdParts s m b o r i a with
 | none => rw [h1] at h; cases h
 | some d0 =>
  rw [h1] at h; simp only at h
  cases h2 : rdHead s d0.a m with
  | none => rw [h2] at h; cases h
  | some q =>
   obtain ⟨k, e, a1⟩ := q
   rw [h2] at h; simp only at h
   cases h3 : rdAll s k e (frN b o r (i + 1) - frN b o r i) a1 with
   | none => rw [h3] at h; cases h
   | some q2 =>
    obtain ⟨X, a2⟩ := q2
    rw [h3] at h
    cases h
    exact ⟨d0, k, e, a1, X, rfl, h2, h3, rfl, rfl, rfl⟩
theorem rdParts_len (h : rdParts s m b o r i a = some d) : d.L.length = frN b o r i /\ d.P.length = i /\ d.E.length = i := by
 induction i generalizing d with
 | zero => unfold rdParts at h; cases h; simp [frN_zero]
 | succ i ih =>
  obtain ⟨d0, k, e, a1, X, h1, h2, h3, h4, h5, h6⟩ := rdParts_inv h
  obtain ⟨i1, i2, i3⟩ := ih h1
  have := rdAll_len h3
  have := frN_mono b o r i
  rw [h4, h5, h6]
  simp only [List.length_append, List.length_singleton]
  omega
end
def rdTop (s : ByteArray) (a : Nat) (b r : Int) : Option (Int × Int × Nat) :=
 if getE s a 2 = 0 /\ getV s a 2 <= 1 then
  (if getE s (getA s a 2) 4 = 0 /\ cutOk b r (getV s (getA s a 2) 4) then some (getV s a 2, getV s (getA s a 2) 4, getA s (getA s a 2) 4) else none)
 else none
def decP (s : ByteArray) (a : Nat) (b r : Int) : Option (Rc × List Int × Nat) :=
 match rdTop s a b r with
 | none => none
 | some (m, o, a1) => match rdParts s m b.toNat o.toNat r.toNat (2 ^ o.toNat) a1 with
  | none => none
  | some d => some (⟨m, o, d.P, d.E⟩, d.L, d.a)
def argOk (b r : Int) : Prop := 1 <= b /\ b <= 65535 /\ 0 <= r /\ r <= 32 /\ r <= b
def IntsBlk (w : World) (g : Nat) (L : List Int) : Prop := w.heap[g]? = some (.cells (intsC L).toArray 3 (0, 0))
theorem IntsBlk.lt {w : World} {g : Nat} {L : List Int} (h : IntsBlk w g L) : g < w.heap.size := lt_of_block h
theorem IntsBlk.stays {w w' : World} {g : Nat} {L : List Int} (h : IntsBlk w g L) {S : Nat -> Prop} (hS : Stays S w w') (hn : ¬ S g) : IntsBlk w' g L := by
 unfold IntsBlk; rw [hS.block g h.lt hn]; exact h
theorem IntsBlk.below {w w' : World} {g : Nat} {L : List Int} (h : IntsBlk w g L) (hb : Lo w w') : IntsBlk w' g L := h.stays (Stays.of_below hb (fun _ => False)) (fun h => h)
theorem IntsBlk.cell {w : World} {g : Nat} {L : List Int} (h : IntsBlk w g L) (j : Nat) (hj : j < L.length) : w.cell? ⟨g, j, none⟩ = some (.int .i64 (L.getD j 0)) := by
 rw [cell_of_row _ _ _ _ _ _ h]
 simp [intsC, List.getD_eq_getElem?_getD, List.getElem?_eq_getElem hj]
theorem IntsBlk.frozen {w : World} {g : Nat} {L : List Int} (h : IntsBlk w g L) (j : Nat) : w.frozen? ⟨g, j, none⟩ = false := by
 unfold IntsBlk at h
 simp [World.frozen?, h]
theorem IntsBlk.set {w : World} {g : Nat} {L : List Int} (h : IntsBlk w g L) (j : Nat) (v : Int) : IntsBlk (w.setCell ⟨g, j, none⟩ (.int .i64 v)) g (L.set j v) := by
 unfold IntsBlk
 rw [block_setCell _ _ _ _ _ _ h]
 congr 2
 simp [intsC, List.map_set]
theorem IntsBlk.other {w : World} {g : Nat} {L : List Int} (h : IntsBlk w g L) (p : Addr) (u : Value) (hp : p.block ≠ g) : IntsBlk (w.setCell p u) g L := by
 unfold IntsBlk; rw [Below.heap_setCell w p u g (fun e => hp e.symm)]; exact h
theorem IntsBlk.ints {w : World} {g : Nat} {L : List Int} (h : IntsBlk w g L) (hl : L.length <= 17592186044415) (hn : ∀ n ∈ L, -9223372036854775808 <= n /\ n <= 9223372036854775807) : IntsAt w (some ⟨g, 0, none⟩) L :=
 ⟨hl, hn, fun _ => ⟨g, 0, rfl, fun j hj => by rw [Nat.zero_add]; exact h.cell j hj⟩⟩
theorem number_spec (q : Nat) (s : ByteArray) (hs : s.size <= 1000000000000000000) (a : Nat) (ha : a <= 8 * s.size) (k : Int) (k0 : 0 <= k) (k1 : k <= 31) (w : World) (h : Rd w q s a) :
  Calls Tryz.prog 232 #[.pointer (some ⟨q, 0, none⟩), .int .i64 k] w fun en w' => en = .returned (.tuple #[.int .i64 (getV s a k), .bool (getE s a k == 0)]) /\ Rd w' q s (getA s a k) /\ Stays (only q) w w' := by
 have kg := get_all s hs a ha w q k h
 obtain ⟨v0, v1⟩ := getV_bound s a k
 have v2 : getV s a k <= 4294967296 := by
  have hp : (2 : Int) ^ k.toNat <= 2 ^ 31 := by
   have e1 : ((2 ^ k.toNat : Nat) : Int) = 2 ^ k.toNat := by simp
   have e2 : (2 : Nat) ^ k.toNat <= 2 ^ 31 := Nat.pow_le_pow_right (by decide) (by omega)
   have e3 : (2 : Nat) ^ 31 = 2147483648 := by decide
   rw [<- e1]
   have e4 : (2 : Int) ^ 31 = 2147483648 := by decide
   omega
  have e4 : (2 : Int) ^ 31 = 2147483648 := by decide
  omega
 clear v1
 generalize getV s a k = v at *
 generalize getE s a k = ev at *
 go_enter Tryz.func232, Tryz.ntmps232
 go_wp2_with fail
 refine kg.mono ?_
 rintro e w2 ⟨rfl, h2, h3⟩
 have HH : Hid (Rd w2 q s (getA s a k) /\ Stays (only q) w w2) := ⟨h2, h3⟩
 clear h2 h3 kg
 go_wp2_with fail
 go_ret2
 exact ⟨rfl, HH.out⟩
theorem ric_bound (s : ByteArray) (a : Nat) (k : Int) (k1 : k <= 30) : -9223372036854775808 <= ricV s a k /\ ricV s a k <= 9223372036854775807 := by
 unfold ricV; split
 ·rename_i h0
  unfold ricE at h0
  split at h0
  ·cases h0
  ·split at h0
   ·rename_i hu
    have hl : lead (ahead s a) <= 16777216 := by
     unfold unaE at hu
     split at hu
     ·cases hu
     ·omega
    have hb := bitsAt_lt s (a + lead (ahead s a) + 1) k.toNat
    have hp : 2 ^ k.toNat <= 2 ^ 30 := Nat.pow_le_pow_right (by decide) (by omega)
    have e3 : (2 : Nat) ^ 30 = 1073741824 := by decide
    have hm := Nat.mul_le_mul hl hp
    unfold unfoldN
    split <;> omega
   ·rename_i hx; exact absurd h0 hx
 ·decide
theorem sgn_bound (s : ByteArray) (a : Nat) (k : Int) (k1 : k <= 31) : -9223372036854775808 <= sgnV s a k /\ sgnV s a k <= 9223372036854775807 := by
 unfold sgnV; split
 ·have hb := bitsAt_lt s a k.toNat
  have hp : 2 ^ k.toNat <= 2 ^ 31 := Nat.pow_le_pow_right (by decide) (by omega)
  have e3 : (2 : Nat) ^ 31 = 2147483648 := by decide
  have e5 : (2 : Int) ^ k.toNat = ((2 ^ k.toNat : Nat) : Int) := by simp
  unfold sgn
  rw [e5]
  split <;> omega
 ·decide
theorem rd_bound (s : ByteArray) (a : Nat) (k e : Int) (hk : k <= 30) (he : e <= 31) : -9223372036854775808 <= rdV s a k e /\ rdV s a k e <= 9223372036854775807 := by
 unfold rdV; split
 ·exact ric_bound s a k hk
 ·split
  ·decide
  ·exact sgn_bound s a e he
theorem readOne_spec (q : Nat) (s : ByteArray) (hs : s.size <= 1000000000000000000) (a : Nat) (ha : a <= 8 * s.size) (k e : Int) (he : ¬ e = 0) (w : World) (h : Rd w q s a) :
  Calls Tryz.prog 233 #[.pointer (some ⟨q, 0, none⟩), .int .i64 k, .int .i64 e] w fun en w' => en = .returned (.tuple #[.int .i64 (rdV s a k e), .int .i64 (rdE s a k e)]) /\ Rd w' q s (rdA s a k e) /\ Stays (only q) w w' := by
 by_cases h1 : e = -1
 ·subst h1
  have kg := rice_all s hs a ha w q k h
  have e1 : rdV s a k (-1) = ricV s a k := by unfold rdV; rw [if_pos rfl]
  have e2 : rdE s a k (-1) = ricE s a k := by unfold rdE; rw [if_pos rfl]
  have e3 : rdA s a k (-1) = ricA s a k := by unfold rdA; rw [if_pos rfl]
  rw [e1, e2, e3]
  clear e1 e2 e3
  generalize ricV s a k = v at *
  generalize ricE s a k = ev at *
  go_enter Tryz.func233, Tryz.ntmps233
  go_wp2_with fail
  refine kg.mono ?_
  rintro e w2 ⟨rfl, h2, h3⟩
  have HH : Hid (Rd w2 q s (ricA s a k) /\ Stays (only q) w w2) := ⟨h2, h3⟩
  clear h2 h3 kg
  go_wp2_with fail
  go_ret2
  exact ⟨rfl, HH.out⟩
 ·have kg := signed_all s hs a ha w q e h
  have hb : (e == -1) = false := by rw [beq_eq_false_iff_ne]; exact h1
  have e1 : rdV s a k e = sgnV s a e := by unfold rdV; rw [if_neg h1, if_neg he]
  have e2 : rdE s a k e = sgnE s a e := by unfold rdE; rw [if_neg h1, if_neg he]
  have e3 : rdA s a k e = sgnA s a e := by unfold rdA; rw [if_neg h1, if_neg he]
  rw [e1, e2, e3]
  clear e1 e2 e3
  generalize sgnV s a e = v at *
  generalize sgnE s a e = ev at *
  go_enter Tryz.func233, Tryz.ntmps233
  go_wp2_with fail
  refine kg.mono ?_
  rintro e' w2 ⟨rfl, h2, h3⟩
  have HH : Hid (Rd w2 q s (sgnA s a e) /\ Stays (only q) w w2) := ⟨h2, h3⟩
  clear h2 h3 kg
  go_wp2_with fail
  go_ret2
  exact ⟨rfl, HH.out⟩
end Go.Proofs.YtfpfabmbipmipaaGreatDoor
