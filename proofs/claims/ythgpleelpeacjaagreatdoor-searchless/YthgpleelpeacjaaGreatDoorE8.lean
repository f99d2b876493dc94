/- Own text. -/
import Derived.Test.YthgpleelpeacjaaGreatDoorE7
import Derived.RowKit
import Derived.Test.YthgpleelpeacjaaGreatDoorChecked
import Derived.Deep.AppendLies
import Derived.BigRegion
set_option linter.unusedSimpArgs false
set_option linter.unusedVariables false
set_option maxRecDepth 20000
set_option maxHeartbeats 12800000
namespace Go.Proofs.YthgpleelpeacjaaGreatDoor
open Go.RowKit
structure ES (w : World) (c : Rc) (pa : Option Addr) (pc : Nat) (ea : Option Addr) (ec : Nat) (q : Nat) (N d r : Int) (p : Nat) (ao aj : Option Addr) (B : List Nat) (wx : World) : Prop where
 wb : WB w p ao aj B (q + 1) wx
 bx : wx.heap[w.heap.size]? = some (.cells (riceC c pa pc ea ec) 25 (0, 0))
 bq : wx.heap[q]? = some (.cells #[.int .i64 N, .int .i64 d, .int .i64 r] 198 (0, 0))
 lt : w.heap.size < q
section
variable {w wx w' : World} {c : Rc} {pa : Option Addr} {pc : Nat} {ea : Option Addr} {ec : Nat} {q : Nat} {N d r : Int} {p : Nat} {ao aj aj' : Option Addr} {B B' : List Nat}
theorem ES.start (h : CB w c pa pc ea ec q N d r wx) (hw : WrB w p ao B) : ES w c pa pc ea ec q N d r p ao ao B wx :=
 ⟨WB.start hw h.rb.below _ (lt_of_block h.box), h.rb.box, h.box, h.lt⟩
theorem ES.low (h : ES w c pa pc ea ec q N d r p ao aj B wx) (hb : Below wx.heap.size wx w') : ES w c pa pc ea ec q N d r p ao aj B w' :=
 ⟨h.wb.low hb, by rw [hb.block _ (lt_of_block h.bx)]; exact h.bx, by rw [hb.block _ (lt_of_block h.bq)]; exact h.bq, h.lt⟩
theorem ES.put (h : ES w c pa pc ea ec q N d r p ao aj B wx) (hw : WrB w' p aj' B') (hS : Stays (foot p aj) wx w') (hM : Moved wx.heap.size aj aj') : ES w c pa pc ea ec q N d r p ao aj' B' w' :=
 ⟨h.wb.put hw hS hM, by rw [h.wb.box hS _ (Nat.le_refl _) (by have := h.lt; omega)]; exact h.bx, by rw [h.wb.box hS _ (Nat.le_of_lt h.lt) (by omega)]; exact h.bq, h.lt⟩
theorem ES.cells (h : ES w c pa pc ea ec q N d r p ao aj B wx) : wx.cell? ⟨w.heap.size, 0, none⟩ = some (.int .i64 c.m) ∧ wx.cell? ⟨w.heap.size, 1, none⟩ = some (.int .i64 c.o) ∧ wx.cell? ⟨w.heap.size, 2, none⟩ = some (.slice pa c.P.length pc) ∧ wx.cell? ⟨w.heap.size, 3, none⟩ = some (.slice ea c.E.length ec) ∧ wx.cell? ⟨q, 0, none⟩ = some (.int .i64 N) ∧ wx.cell? ⟨q, 1, none⟩ = some (.int .i64 d) ∧ wx.cell? ⟨q, 2, none⟩ = some (.int .i64 r) := by
 obtain ⟨x0, x1, x2, x3⟩ := RB.of_box h.bx
 refine ⟨x0, x1, x2, x3, ?_, ?_, ?_⟩ <;> (rw [cell_of_row _ _ _ _ _ _ h.bq]; rfl)
end
theorem encode_chk (c : Rc) (l : List Int) (hs : ShX l) (pa : Option Addr) (pc : Nat) (ea : Option Addr) (ec : Nat) (lo : Option Addr) (cap : Nat) (hc : l.length ≤ cap) (h0 : lo = none → cap = 0) (p : Nat) (ao : Option Addr) (B : List Nat) (h01 : Bits01 B) (hB : B.length ≤ 1300000000000) (w : World) (hr : RcAt w c pa ea) (hl : IntsAt w lo l) (hw : WrB w p ao B) (b r : Int) (hno : ¬ chkOk c b r) :
  Calls Tryz.prog 135 #[.pointer (some ⟨p, 0, none⟩), riceV c pa pc ea ec, .int .i64 b, .int .i64 r, .slice lo l.length cap] w fun en w' => en = .returned (.int .i64 60) ∧ Below w.heap.size w w' := by
 have HB0 : Hid (RB w c pa pc ea ec (w.alloc (.cells (riceC c pa pc ea ec) 25))) := RB.new w c pa pc ea ec
 have KC : Hid (∀ wx, Below w.heap.size w wx → Calls Tryz.prog 179 #[riceV c pa pc ea ec, .int .i64 b, .int .i64 r] wx fun en w' => en = .returned (.int .i64 60) ∧ Below wx.heap.size wx w') := fun wx hb => (check_spec c b r pa pc ea ec wx (hr.below hb)).mono fun e w' hh => ⟨by rw [hh.1, chk_no hno], hh.2⟩
 clear hno hr hl hw hs
 go_enter Tryz.func135, Tryz.ntmps135
 go_wp2_with fail
 generalize hwa : w.alloc _ = wa at *
 clear hwa
 refine (KC.out wa HB0.out.below).mono ?_
 rintro e w2 ⟨rfl, hb2⟩
 have HR2 : Hid (Below w.heap.size w w2) := (HB0.out.next hb2).below
 clear hb2
 go_wp2_with fail
 go_ret
 exact ⟨rfl, HR2.out⟩
theorem encode_fit (c : Rc) (l : List Int) (hs : ShX l) (pa : Option Addr) (pc : Nat) (ea : Option Addr) (ec : Nat) (lo : Option Addr) (cap : Nat) (hc : l.length ≤ cap) (h0 : lo = none → cap = 0) (p : Nat) (ao : Option Addr) (B : List Nat) (h01 : Bits01 B) (hB : B.length ≤ 1300000000000) (w : World) (hr : RcAt w c pa ea) (hl : IntsAt w lo l) (hw : WrB w p ao B) (b o r : Nat) (h : Rok c b o r) (hf : fitB c b o r l = false) :
  Calls Tryz.prog 135 #[.pointer (some ⟨p, 0, none⟩), riceV c pa pc ea ec, .int .i64 (b : Int), .int .i64 (r : Int), .slice lo l.length cap] w fun en w' => en = .returned (.int .i64 60) ∧ Below w.heap.size w w' := by
 have HB0 : Hid (RB w c pa pc ea ec (w.alloc (.cells (riceC c pa pc ea ec) 25))) := RB.new w c pa pc ea ec
 have KC : Hid (∀ wx, Below w.heap.size w wx → Calls Tryz.prog 179 #[riceV c pa pc ea ec, .int .i64 (b : Int), .int .i64 (r : Int)] wx fun en w' => en = .returned (.int .i64 0) ∧ Below wx.heap.size wx w') := fun wx hb => (check_spec c b r pa pc ea ec wx (hr.below hb)).mono fun e w' hh => ⟨by rw [hh.1, chk_yes h.chk], hh.2⟩
 have KU : Hid (∀ wx, Calls Tryz.prog 180 #[.int .i64 (b : Int), .int .i64 (r : Int), .int .i64 c.o] wx fun e w' => e = .returned (.tuple #[cutV ((2 ^ o : Nat) : Int) ((b / 2 ^ o : Nat) : Int) (r : Int), .bool true]) ∧ Below wx.heap.size wx w') := fun wx => by rw [h.ho]; exact cutOf_yes b o r h.cut wx
 have KF : Hid (∀ wx, Below w.heap.size w wx → Calls Tryz.prog 181 #[riceV c pa pc ea ec, cutV ((2 ^ o : Nat) : Int) ((b / 2 ^ o : Nat) : Int) (r : Int), .slice lo l.length cap] wx fun en w' => en = .returned (.bool (fitB c b o r l)) ∧ Below wx.heap.size wx w') := fun wx hb => fit_spec c b o r l h hs pa pc ea ec lo cap hc h0 wx (hr.below hb) (hl.below hb)
 rw [hf] at KF
 clear hr hl hw hs h hf
 generalize hpn : 2 ^ o = N at *
 generalize b / N = d at *
 clear hpn
 go_enter Tryz.func135, Tryz.ntmps135
 go_wp2_with fail
 generalize hwa : w.alloc _ = wa at *
 clear hwa
 refine (KC.out wa HB0.out.below).mono ?_
 rintro e w2 ⟨rfl, hb2⟩
 have HR2 : Hid (RB w c pa pc ea ec w2) := HB0.out.next hb2
 clear hb2
 have x1 := HR2.out.c1
 go_wp2_with fail
 refine (KU.out w2).mono ?_
 rintro e w3 ⟨rfl, hb3⟩
 have HC4 : Hid (CB w c pa pc ea ec w3.heap.size (N : Int) (d : Int) (r : Int) (w3.alloc (.cells #[.int .i64 (N : Int), .int .i64 (d : Int), .int .i64 (r : Int)] 198))) := CB.new (HR2.out.next hb3) _ _ _
 clear hb3 x1 HR2
 have x0 := HC4.out.rb.c0
 have x1 := HC4.out.rb.c1
 have x2 := HC4.out.rb.c2
 have x3 := HC4.out.rb.c3
 go_wp2_with fail
 generalize hwd : w3.alloc _ = wd at *
 generalize w3.heap.size = q at *
 clear hwd x0 x1 x2 x3
 refine (KF.out wd HC4.out.rb.below).mono ?_
 rintro e w5 ⟨rfl, hb5⟩
 have HC5 : Hid (CB w c pa pc ea ec q (N : Int) (d : Int) (r : Int) w5) := HC4.out.next hb5
 clear hb5 HC4
 go_wp2_with fail
 go_ret
 exact ⟨rfl, HC5.out.rb.below⟩
theorem encode_ok (c : Rc) (l : List Int) (hs : ShX l) (pa : Option Addr) (pc : Nat) (ea : Option Addr) (ec : Nat) (lo : Option Addr) (cap : Nat) (hc : l.length ≤ cap) (h0 : lo = none → cap = 0) (p : Nat) (ao : Option Addr) (B : List Nat) (h01 : Bits01 B) (hB : B.length ≤ 1300000000000) (w : World) (hr : RcAt w c pa ea) (hl : IntsAt w lo l) (hw : WrB w p ao B) (a1 : Apart p ao pa c.P) (a2 : Apart p ao ea c.E) (a3 : Apart p ao lo l) (b o r : Nat) (h : Rok c b o r) (hf : fitB c b o r l = true) :
  Calls Tryz.prog 135 #[.pointer (some ⟨p, 0, none⟩), riceV c pa pc ea ec, .int .i64 (b : Int), .int .i64 (r : Int), .slice lo l.length cap] w fun en w' => en = .returned (.int .i64 0) ∧ ∃ ao', WrB w' p ao' (B ++ encB c b r l) ∧ Stays (foot p ao) w w' ∧ Moved w.heap.size ao ao' := by
 have HB0 : Hid (RB w c pa pc ea ec (w.alloc (.cells (riceC c pa pc ea ec) 25))) := RB.new w c pa pc ea ec
 have KC : Hid (∀ wx, Below w.heap.size w wx → Calls Tryz.prog 179 #[riceV c pa pc ea ec, .int .i64 (b : Int), .int .i64 (r : Int)] wx fun en w' => en = .returned (.int .i64 0) ∧ Below wx.heap.size wx w') := fun wx hb => (check_spec c b r pa pc ea ec wx (hr.below hb)).mono fun e w' hh => ⟨by rw [hh.1, chk_yes h.chk], hh.2⟩
 have KU : Hid (∀ wx, Calls Tryz.prog 180 #[.int .i64 (b : Int), .int .i64 (r : Int), .int .i64 c.o] wx fun e w' => e = .returned (.tuple #[cutV ((2 ^ o : Nat) : Int) ((b / 2 ^ o : Nat) : Int) (r : Int), .bool true]) ∧ Below wx.heap.size wx w') := fun wx => by rw [h.ho]; exact cutOf_yes b o r h.cut wx
 have KF : Hid (∀ wx, Below w.heap.size w wx → Calls Tryz.prog 181 #[riceV c pa pc ea ec, cutV ((2 ^ o : Nat) : Int) ((b / 2 ^ o : Nat) : Int) (r : Int), .slice lo l.length cap] wx fun en w' => en = .returned (.bool (fitB c b o r l)) ∧ Below wx.heap.size wx w') := fun wx hb => fit_spec c b o r l h hs pa pc ea ec lo cap hc h0 wx (hr.below hb) (hl.below hb)
 rw [hf] at KF
 obtain ⟨hlen, hfit⟩ := (fitB_iff c b o r l).1 hf
 have hot : c.o.toNat = o := by have := h.ho; omega
 have HEB : Hid (encB c b r l = putB c.m 2 ++ putB c.o 4 ++ partsB c b o r l (2 ^ o)) := by show _ = _; unfold encB; rw [hot]
 have hm0 := h.m0
 have hm1 := h.m1
 have ho15 := h.cut.o15
 have hco := h.ho
 have HW : Hid (WrB w p ao B) := hw
 have hl5 := hs.2
 have hp15 := pow15 o ho15
 have HLB : Hid (∀ n, n ≤ 2 ^ o → (B ++ putB c.m 2 ++ putB c.o 4 ++ partsB c b o r l n).length ≤ 2700000000000) := fun n hn => by
  have h1 := parts_room c hm1 h.cut l hlen n hn hl5
  have h2 := putB_short c.m 2 (by omega)
  have h3 := putB_short c.o 4 (by omega)
  simp only [List.length_append]
  omega
 have H01 : Hid (∀ n, Bits01 (B ++ putB c.m 2 ++ putB c.o 4 ++ partsB c b o r l n)) := fun n => (((h01.append (putB_01 _ _)).append (putB_01 _ _)).append (partsB_01 _ _ _ _ _ _))
 have HPS : Hid (∀ n, partsB c b o r l (n + 1) = partsB c b o r l n ++ (headB c.m (c.P.getD n 0) (c.E.getD n 0) ++ numsB (c.P.getD n 0) (c.E.getD n 0) (partN l b o r n))) := fun n => partsB_succ c b o r l n
 have HKH : Hid (∀ (j : Nat) aj BJ wx q' N' d' r', j < 2 ^ o → Bits01 BJ → BJ.length ≤ 3000000000000 → Hid (ES w c pa pc ea ec q' N' d' r' p ao aj BJ wx) → Calls Tryz.prog 182 #[.pointer (some ⟨p, 0, none⟩), riceV c pa pc ea ec, .int .i64 (j : Int)] wx fun en w' => en = .returned (.tuple #[]) ∧ ∃ ao', Hid (ES w c pa pc ea ec q' N' d' r' p ao ao' (BJ ++ headB c.m (c.P.getD j 0) (c.E.getD j 0)) w')) := fun j aj BJ wx q' N' d' r' hj hb hl hE =>
  (writeHead_spec c b o r j h hj pa pc ea ec p aj BJ hb (by omega) wx ⟨hE.out.wb.ints hr.P a1, hE.out.wb.ints hr.E a2, hr.m1, hr.m2, hr.o1, hr.o2⟩ hE.out.wb.wr (a1.moved hr.P hE.out.wb.mv) (a2.moved hr.E hE.out.wb.mv)).mono fun e w' hh => by
   obtain ⟨h1, ao', h2, h3, h4⟩ := hh
   exact ⟨h1, ao', hE.out.put h2 h3 h4⟩
 have HKQ : Hid (∀ (j : Nat) aj BJ wx q' N' r', j < 2 ^ o → Hid (ES w c pa pc ea ec q' N' ((b / 2 ^ o : Nat) : Int) r' p ao aj BJ wx) → Calls Tryz.prog 184 #[cutV N' ((b / 2 ^ o : Nat) : Int) (r : Int), .slice lo l.length cap, .int .i64 (j : Int)] wx fun en w' => ∃ xo, en = .returned (.slice xo (partN l b o r j).length (partN l b o r j).length) ∧ Hid (ES w c pa pc ea ec q' N' ((b / 2 ^ o : Nat) : Int) r' p ao aj BJ w') ∧ Hid (IntsAt w' xo (partN l b o r j) ∧ Apart p aj xo (partN l b o r j))) := fun j aj BJ wx q' N' r' hj hE =>
  (partL_spec l b o r j h.cut hj lo cap hlen hc h0 N' wx (hE.out.wb.ints hl a3)).mono fun e w' hh => by
   obtain ⟨xo, h1, h2, h3, h4, _⟩ := hh
   exact ⟨xo, h1, hE.out.low h2, h3, (a3.moved hl hE.out.wb.mv).part h4 (fun hp => by
    have : (partN l b o r j).length ≤ l.length := by unfold partN; rw [List.length_take, List.length_drop]; omega
    omega)⟩
 have HKW : Hid (∀ (j : Nat) aj BJ wx q' N' d' r' xo, j < 2 ^ o → Bits01 BJ → BJ.length ≤ 3000000000000 → Hid (ES w c pa pc ea ec q' N' d' r' p ao aj BJ wx) → Hid (IntsAt wx xo (partN l b o r j) ∧ Apart p aj xo (partN l b o r j)) → Calls Tryz.prog 183 #[.pointer (some ⟨p, 0, none⟩), riceV c pa pc ea ec, .int .i64 (j : Int), .slice xo (partN l b o r j).length (partN l b o r j).length] wx fun en w' => en = .returned (.tuple #[]) ∧ ∃ ao', Hid (ES w c pa pc ea ec q' N' d' r' p ao ao' (BJ ++ numsB (c.P.getD j 0) (c.E.getD j 0) (partN l b o r j)) w')) := fun j aj BJ wx q' N' d' r' xo hj hb hl2 hE hX =>
  (writePart_spec c b o r j h hj (partN l b o r j) (hfit j hj) pa pc ea ec xo _ p aj BJ hb (by
    have : (partN l b o r j).length ≤ l.length := by unfold partN; rw [List.length_take, List.length_drop]; omega
    omega) wx ⟨hE.out.wb.ints hr.P a1, hE.out.wb.ints hr.E a2, hr.m1, hr.m2, hr.o1, hr.o2⟩ hX.out.1 hE.out.wb.wr (a1.moved hr.P hE.out.wb.mv) (a2.moved hr.E hE.out.wb.mv) hX.out.2).mono fun e w' hh => by
   obtain ⟨h1, ao', h2, h3, h4⟩ := hh
   exact ⟨h1, ao', hE.out.put h2 h3 h4⟩
 have HCO : Hid (c.o = (o : Int)) := hco
 have hc0 : 0 ≤ c.o := by omega
 have hc1 : c.o ≤ 15 := by omega
 clear hr hl hw hs h hf hfit hot a1 a2 a3 hco hlen
 generalize hpn : 2 ^ o = N at *
 generalize b / N = d at *
 clear hpn
 go_enter Tryz.func135, Tryz.ntmps135
 go_wp2_with fail
 generalize hwa : w.alloc _ = wa at *
 clear hwa
 refine (KC.out wa HB0.out.below).mono ?_
 rintro e w2 ⟨rfl, hb2⟩
 have HR2 : Hid (RB w c pa pc ea ec w2) := HB0.out.next hb2
 clear hb2
 have x1 := HR2.out.c1
 go_wp2_with fail
 refine (KU.out w2).mono ?_
 rintro e w3 ⟨rfl, hb3⟩
 have HC4 : Hid (CB w c pa pc ea ec w3.heap.size (N : Int) (d : Int) (r : Int) (w3.alloc (.cells #[.int .i64 (N : Int), .int .i64 (d : Int), .int .i64 (r : Int)] 198))) := CB.new (HR2.out.next hb3) _ _ _
 clear hb3 x1 HR2
 have x0 := HC4.out.rb.c0
 have x1 := HC4.out.rb.c1
 have x2 := HC4.out.rb.c2
 have x3 := HC4.out.rb.c3
 go_wp2_with fail
 generalize hwd : w3.alloc _ = wd at *
 generalize w3.heap.size = q at *
 clear hwd x0 x1 x2 x3
 refine (KF.out wd HC4.out.rb.below).mono ?_
 rintro e w5 ⟨rfl, hb5⟩
 have HC5 : Hid (CB w c pa pc ea ec q (N : Int) (d : Int) (r : Int) w5) := HC4.out.next hb5
 clear hb5 HC4
 have HE5 : Hid (ES w c pa pc ea ec q (N : Int) (d : Int) (r : Int) p ao ao B w5) := ES.start HC5.out HW.out
 clear HC5 KC KU KF
 obtain ⟨x0, x1, x2, x3, y0, y1, y2⟩ := HE5.out.cells
 have kp := wput_all w5 ao B p c.m 2 (by omega) (by omega) h01 (by omega) HE5.out.wb.wr
 go_wp2_with fail
 refine kp.mono ?_
 rintro e w6 ⟨rfl, ao6, hw6, hs6, hv6⟩
 have HE6 : Hid (ES w c pa pc ea ec q (N : Int) (d : Int) (r : Int) p ao ao6 (B ++ putB c.m 2) w6) := HE5.out.put hw6 hs6 hv6
 clear hw6 hs6 hv6 kp x0 x1 x2 x3 y0 y1 y2 HE5
 obtain ⟨x0, x1, x2, x3, y0, y1, y2⟩ := HE6.out.cells
 have kp := wput_all w6 ao6 (B ++ putB c.m 2) p c.o 4 (by omega) (by omega) (h01.append (putB_01 _ _)) (by rw [List.length_append]; have := putB_short c.m 2 (by omega); omega) HE6.out.wb.wr
 have hcw : IntKind.u64.wrap c.o = c.o := by rw [IntKind.wrap_u64]; omega
 go_wp2_with fail
 refine kp.mono ?_
 rintro e w7 ⟨rfl, ao7, hw7, hs7, hv7⟩
 have HE7 : Hid (ES w c pa pc ea ec q (N : Int) (d : Int) (r : Int) p ao ao7 (B ++ putB c.m 2 ++ putB c.o 4) w7) := HE6.out.put hw7 hs7 hv7
 clear hw7 hs7 hv7 kp x0 x1 x2 x3 y0 y1 y2 HE6 hcw hc0 hc1
 obtain ⟨x0, x1, x2, x3, y0, y1, y2⟩ := HE7.out.cells
 have hn32 := hp15.2
 go_wp2_with fail
 clear x0 x1 x2 x3 y0 y1 y2
 go_loopw [14, 49] (fun s14 s49 wr => ∃ (j : Nat) (aj : Option Addr), j ≤ N ∧ s49 = .int .i64 (j : Int) ∧ ES w c pa pc ea ec q (N : Int) (d : Int) (r : Int) p ao aj (B ++ putB c.m 2 ++ putB c.o 4 ++ partsB c b o r l j) wr) (fun _ s49 _ => N - (intOf s49).toNat)
 case atStart => exact ⟨0, ao7, Nat.zero_le _, rfl, by rw [partsB_zero, List.append_nil]; exact HE7.out⟩
 case round =>
  clear HE7
  obtain ⟨j, aj, hj, rfl, hes⟩ := hrel
  have HE : Hid (ES w c pa pc ea ec q (N : Int) (d : Int) (r : Int) p ao aj (B ++ putB c.m 2 ++ putB c.o 4 ++ partsB c b o r l j) wr) := hes
  clear hes
  by_cases hlt : j < N
  ·have HS1 : Hid (B ++ putB c.m 2 ++ putB c.o 4 ++ partsB c b o r l (j + 1) = B ++ putB c.m 2 ++ putB c.o 4 ++ partsB c b o r l j ++ headB c.m (c.P.getD j 0) (c.E.getD j 0) ++ numsB (c.P.getD j 0) (c.E.getD j 0) (partN l b o r j)) := by
    show _ = _
    rw [HPS.out j]
    simp only [List.append_assoc]
   have hlb := HLB.out j (by omega)
   have h01j := H01.out j
   have hhl := headB_len c.m (c.P.getD j 0) (c.E.getD j 0) hm1
   have h01h := headB_01 c.m (c.P.getD j 0) (c.E.getD j 0)
   generalize B ++ putB c.m 2 ++ putB c.o 4 ++ partsB c b o r l j = BJ at *
   have kh := HKH.out j aj BJ wr q (N : Int) (d : Int) (r : Int) hlt h01j (by omega) HE
   have KQ : Hid (∀ wx aj BJ, Hid (ES w c pa pc ea ec q (N : Int) (d : Int) (r : Int) p ao aj BJ wx) → Calls Tryz.prog 184 #[cutV (N : Int) (d : Int) (r : Int), .slice lo l.length cap, .int .i64 (j : Int)] wx fun en w' => ∃ xo, en = .returned (.slice xo (partN l b o r j).length (partN l b o r j).length) ∧ Hid (ES w c pa pc ea ec q (N : Int) (d : Int) (r : Int) p ao aj BJ w') ∧ Hid (IntsAt w' xo (partN l b o r j) ∧ Apart p aj xo (partN l b o r j))) := fun wx aj BJ hE => HKQ.out j aj BJ wx q (N : Int) (r : Int) hlt hE
   have KW : Hid (∀ wx aj xo, Hid (ES w c pa pc ea ec q (N : Int) (d : Int) (r : Int) p ao aj (BJ ++ headB c.m (c.P.getD j 0) (c.E.getD j 0)) wx) → Hid (IntsAt wx xo (partN l b o r j) ∧ Apart p aj xo (partN l b o r j)) → Calls Tryz.prog 183 #[.pointer (some ⟨p, 0, none⟩), riceV c pa pc ea ec, .int .i64 (j : Int), .slice xo (partN l b o r j).length (partN l b o r j).length] wx fun en w' => en = .returned (.tuple #[]) ∧ ∃ ao', Hid (ES w c pa pc ea ec q (N : Int) (d : Int) (r : Int) p ao ao' (BJ ++ headB c.m (c.P.getD j 0) (c.E.getD j 0) ++ numsB (c.P.getD j 0) (c.E.getD j 0) (partN l b o r j)) w')) := fun wx aj xo hE hX => HKW.out j aj _ wx q (N : Int) (d : Int) (r : Int) xo hlt (h01j.append h01h) (by rw [List.length_append]; omega) hE hX
   have HSC : Hid (∀ wx aj BJ, Hid (ES w c pa pc ea ec q (N : Int) (d : Int) (r : Int) p ao aj BJ wx) → wx.cell? ⟨w.heap.size, 0, none⟩ = some (.int .i64 c.m) ∧ wx.cell? ⟨w.heap.size, 1, none⟩ = some (.int .i64 c.o) ∧ wx.cell? ⟨w.heap.size, 2, none⟩ = some (.slice pa c.P.length pc) ∧ wx.cell? ⟨w.heap.size, 3, none⟩ = some (.slice ea c.E.length ec) ∧ wx.cell? ⟨q, 0, none⟩ = some (.int .i64 (N : Int)) ∧ wx.cell? ⟨q, 1, none⟩ = some (.int .i64 (d : Int)) ∧ wx.cell? ⟨q, 2, none⟩ = some (.int .i64 (r : Int))) := fun wx aj BJ h => h.out.cells
   clear HKH HKQ HKW HPS HLB H01
   generalize partN l b o r j = X at *
   generalize headB c.m (c.P.getD j 0) (c.E.getD j 0) = HH at *
   generalize numsB (c.P.getD j 0) (c.E.getD j 0) X = NN at *
   obtain ⟨x0, x1, x2, x3, y0, y1, y2⟩ := HE.out.cells
   go_wp2_with fail
   refine kh.mono ?_
   rintro e w3 ⟨rfl, aj3, he3⟩
   clear x0 x1 x2 x3 y0 y1 y2 kh HE
   have HD3 : Hid (ES w c pa pc ea ec q (N : Int) (d : Int) (r : Int) p ao aj3 (BJ ++ HH) w3.drew) := he3.out.low ⟨rfl, rfl, rfl, Nat.le_refl _, fun _ _ => rfl⟩
   clear he3
   go_wp2_with fail
   go_region_held3 (fun wx => wx.cell? ⟨w.heap.size, 0, none⟩ = some (.int .i64 c.m) ∧ wx.cell? ⟨w.heap.size, 1, none⟩ = some (.int .i64 c.o) ∧ wx.cell? ⟨w.heap.size, 2, none⟩ = some (.slice pa c.P.length pc) ∧ wx.cell? ⟨w.heap.size, 3, none⟩ = some (.slice ea c.E.length ec) ∧ wx.cell? ⟨q, 0, none⟩ = some (.int .i64 (N : Int)) ∧ wx.cell? ⟨q, 1, none⟩ = some (.int .i64 (d : Int)) ∧ wx.cell? ⟨q, 2, none⟩ = some (.int .i64 (r : Int))) (exact HSC.out _ _ _ (by assumption))
    (first
     | (go_at_call 184; refine (KQ.out _ _ _ (by assumption)).mono ?_; rintro e w4 ⟨xo, rfl, h4, hx4⟩)
     | (go_at_call 183; refine (KW.out _ _ _ (by assumption) (by assumption)).mono ?_; rintro e w5 ⟨rfl, aj5, h5⟩))
   go_wp2_with fail
   go_roundw
   case rel => exact ⟨j + 1, aj5, by omega, by go_num, by rw [HS1.out]; exact h5.out⟩
   case measure => simp [intOf]; omega
  ·have HJN : Hid (j = N) := by show _ = _; omega
   go_wp2_with fail
   go_ret
   refine ⟨rfl, aj, ?_, HE.out.wb.st, HE.out.wb.mv⟩
   have hh := HE.out.wb.wr
   rw [HJN.out] at hh
   rw [HEB.out]
   simpa only [List.append_assoc] using hh
theorem getV_nat (s : ByteArray) (a : Nat) (k : Int) (h : getE s a k = 0) : getV s a k = (bitsAt s a k.toNat : Int) := by unfold getV; rw [if_pos h]
theorem getV_bound (s : ByteArray) (a : Nat) (k : Int) : 0 ≤ getV s a k ∧ getV s a k < 2 ^ k.toNat := by
 have hp : (0 : Int) < 2 ^ k.toNat := Int.pow_pos (by decide)
 unfold getV; split
 ·have h := bitsAt_lt s a k.toNat
  have e : ((2 ^ k.toNat : Nat) : Int) = 2 ^ k.toNat := by simp
  refine ⟨by omega, ?_⟩
  rw [← e]; omega
 ·exact ⟨by omega, by omega⟩
def IntsBlk (w : World) (g : Nat) (L : List Int) : Prop := w.heap[g]? = some (.cells (intsC L).toArray 3 (0, 0))
theorem IntsBlk.lt {w : World} {g : Nat} {L : List Int} (h : IntsBlk w g L) : g < w.heap.size := lt_of_block h
theorem IntsBlk.stays {w w' : World} {g : Nat} {L : List Int} (h : IntsBlk w g L) {S : Nat → Prop} (hS : Stays S w w') (hn : ¬ S g) : IntsBlk w' g L := by
 unfold IntsBlk; rw [hS.block g h.lt hn]; exact h
theorem IntsBlk.below {w w' : World} {g : Nat} {L : List Int} (h : IntsBlk w g L) (hb : Below w.heap.size w w') : IntsBlk w' g L := h.stays (Stays.of_below hb (fun _ => False)) (fun h => h)
theorem IntsBlk.cell {w : World} {g : Nat} {L : List Int} (h : IntsBlk w g L) (j : Nat) (hj : j < L.length) : w.cell? ⟨g, j, none⟩ = some (.int .i64 (L.getD j 0)) := by
 rw [cell_of_row _ _ _ _ _ _ h]
 simp [intsC, List.getD_eq_getElem?_getD, List.getElem?_eq_getElem hj]
theorem IntsBlk.frozen {w : World} {g : Nat} {L : List Int} (h : IntsBlk w g L) (j : Nat) : w.frozen? ⟨g, j, none⟩ = false := by
 unfold IntsBlk at h
 simp [World.frozen?, h]
theorem IntsBlk.set {w : World} {g : Nat} {L : List Int} (h : IntsBlk w g L) (j : Nat) (v : Int) : IntsBlk (w.setCell ⟨g, j, none⟩ (.int .i64 v)) g (L.set j v) := by
 unfold IntsBlk
 rw [block_setCell _ _ _ _ _ _ h]
 congr 2
 simp [intsC, List.map_set]
theorem IntsBlk.other {w : World} {g : Nat} {L : List Int} (h : IntsBlk w g L) (p : Addr) (u : Value) (hp : p.block ≠ g) : IntsBlk (w.setCell p u) g L := by
 unfold IntsBlk; rw [Below.heap_setCell w p u g (fun e => hp e.symm)]; exact h
theorem IntsBlk.ints {w : World} {g : Nat} {L : List Int} (h : IntsBlk w g L) (hl : L.length ≤ 17592186044415) (hn : ∀ n ∈ L, -9223372036854775808 ≤ n ∧ n ≤ 9223372036854775807) : IntsAt w (some ⟨g, 0, none⟩) L :=
 ⟨hl, hn, fun _ => ⟨g, 0, rfl, fun j hj => by rw [Nat.zero_add]; exact h.cell j hj⟩⟩
theorem set_mid (A X C : List Int) (z : Nat) (v : Int) (hz : 0 < z) : (A ++ X ++ List.replicate z 0 ++ C).set (A.length + X.length) v = A ++ (X ++ [v]) ++ List.replicate (z - 1) 0 ++ C := by
 obtain ⟨z, rfl⟩ : ∃ y, z = y + 1 := ⟨z - 1, by omega⟩
 rw [List.append_assoc (A ++ X), List.set_append_right _ _ (by rw [List.length_append]; omega)]
 rw [List.length_append, Nat.sub_self, List.replicate_succ, List.cons_append, List.set_cons_zero]
 simp
theorem info_Rice : (Tryz.prog.info? 25).map (·.size) = some 4 := by kernel_rfl
structure HS0 (w : World) (wx : World) : Prop where
 b0 : wx.heap[w.heap.size]? = some (.cells #[.int .i64 0, .int .i64 0, .slice none 0 0, .slice none 0 0] 25 (0, 0))
 b1 : wx.heap[w.heap.size + 1]? = some (.cells #[.int .i64 0, .int .i64 0, .int .i64 0] 198 (0, 0))
theorem block_set2 (w : World) (p i k : Nat) (cs : Array Value) (t : TypeId) (u : Value) (h : w.heap[k]? = some (.cells cs t (0, 0))) (hk : k ≠ p) : (w.setCell ⟨p, i, none⟩ u).heap[k]? = some (.cells cs t (0, 0)) := by
 rw [Below.heap_setCell w _ _ k hk]; exact h
abbrev zRice : Value := .agg #[.int .i64 0, .int .i64 0, .slice none 0 0, .slice none 0 0]
theorem made_ints (N : Nat) : madeCells #[Value.int .i64 0] N = (intsC (List.replicate N 0)).toArray := by
 apply Array.toList_inj.1
 rw [toList_madeCells_one]
 simp [intsC]
theorem heap_three (w : World) (A B C : Obj) : (((w.alloc A).alloc B).alloc C).drew.heap[w.heap.size]? = some A ∧ (((w.alloc A).alloc B).alloc C).drew.heap[w.heap.size + 1]? = some B ∧ (((w.alloc A).alloc B).alloc C).drew.heap[w.heap.size + 2]? = some C := by
 have h1 : Below (w.heap.size + 1) (w.alloc A) (((w.alloc A).alloc B).alloc C) := (((Below.refl _ _).alloc (by simp) _).alloc (by simp) _)
 have h2 : Below (w.heap.size + 2) ((w.alloc A).alloc B) (((w.alloc A).alloc B).alloc C) := (Below.refl _ _).alloc (by simp) _
 have e1 : (w.alloc A).heap.size = w.heap.size + 1 := by simp
 have e2 : ((w.alloc A).alloc B).heap.size = w.heap.size + 2 := by simp
 refine ⟨?_, ?_, ?_⟩
 ·show (((w.alloc A).alloc B).alloc C).heap[w.heap.size]? = _
  rw [h1.block _ (by omega)]; exact heap_alloc_new _ _
 ·show (((w.alloc A).alloc B).alloc C).heap[w.heap.size + 1]? = _
  rw [h2.block _ (by omega), ← e1]; exact heap_alloc_new _ _
 ·show (((w.alloc A).alloc B).alloc C).heap[w.heap.size + 2]? = _
  rw [← e2]; exact heap_alloc_new _ _
theorem below_three (w : World) (A B C : Obj) : Below w.heap.size w (((w.alloc A).alloc B).alloc C).drew := ((((Below.refl _ _).alloc (Nat.le_refl _) _).alloc (by simp) _).alloc (by simp; omega) _).drew
theorem set4_a {wx : World} (n : Nat) (v0 v1 v2 v3 : Value) {a0 a1 a2 a3 : Value} {t : TypeId} (h : wx.heap[n]? = some (.cells #[a0, a1, a2, a3] t (0, 0))) : ((((wx.setCell ⟨n, 0, none⟩ v0).setCell ⟨n, 1, none⟩ v1).setCell ⟨n, 2, none⟩ v2).setCell ⟨n, 3, none⟩ v3).heap[n]? = some (.cells #[v0, v1, v2, v3] t (0, 0)) := by
 rw [block_setCell _ _ _ _ _ _ (block_setCell _ _ _ _ _ _ (block_setCell _ _ _ _ _ _ (block_setCell _ _ _ _ _ _ h)))]
 rfl
theorem set4_d {wx : World} (n : Nat) (v0 v1 v2 v3 : Value) (j : Nat) (h0 : j ≠ n) : ((((wx.setCell ⟨n, 0, none⟩ v0).setCell ⟨n, 1, none⟩ v1).setCell ⟨n, 2, none⟩ v2).setCell ⟨n, 3, none⟩ v3).heap[j]? = wx.heap[j]? := by
 rw [Below.heap_setCell _ _ _ j h0, Below.heap_setCell _ _ _ j h0, Below.heap_setCell _ _ _ j h0, Below.heap_setCell _ _ _ j h0]
theorem set_next (X : List Int) (z : Nat) (v : Int) (hz : 0 < z) : (X ++ List.replicate z 0).set X.length v = X ++ [v] ++ List.replicate (z - 1) 0 := by
 have h := set_mid [] X [] z v hz
 simpa using h
def encR (c : Rc) (b r : Int) (l : List Int) : Bool := decide (chkOk c b r) && fitB c b.toNat c.o.toNat r.toNat l
theorem encR_yes {c : Rc} {b r : Int} {l : List Int} (h : encR c b r l = true) : ∃ b' o' r' : Nat, b = b' ∧ r = r' ∧ Rok c b' o' r' ∧ fitB c b' o' r' l = true := by
 obtain ⟨h1, h2⟩ := Bool.and_eq_true_iff.1 h
 obtain ⟨b', r', o', rfl, rfl, hk⟩ := Rok.of (of_decide_eq_true h1)
 have e : c.o.toNat = o' := by have := hk.ho; omega
 rw [e] at h2
 exact ⟨b', o', r', rfl, rfl, hk, by simpa using h2⟩
def encN (c : Rc) (b r : Int) (l : List Int) : Int := if encR c b r l then 0 else 60
def encL (c : Rc) (b r : Int) (l : List Int) : List Nat := if encR c b r l then encB c b.toNat r.toNat l else []
theorem encB_room (c : Rc) (b o r : Nat) (hk : Rok c b o r) (l : List Int) (hlen : l.length = b - r) (h5 : l.length ≤ 65535) : (encB c b r l).length ≤ 1300000000000 := by
 have hot : c.o.toNat = o := by have := hk.ho; omega
 have h1 := parts_room c hk.m1 hk.cut l hlen (2 ^ o) (Nat.le_refl _) h5
 have h2 := putB_short c.m 2 (by omega)
 have h3 := putB_short c.o 4 (by omega)
 unfold encB
 rw [hot]
 simp only [List.length_append]
 omega
theorem encode_all (c : Rc) (l : List Int) (hs : ShX l) (pa : Option Addr) (pc : Nat) (ea : Option Addr) (ec : Nat) (lo : Option Addr) (cap : Nat) (hc : l.length ≤ cap) (h0 : lo = none → cap = 0) (p : Nat) (ao : Option Addr) (B : List Nat) (h01 : Bits01 B) (hB : B.length ≤ 1300000000000) (w : World) (hr : RcAt w c pa ea) (hl : IntsAt w lo l) (hw : WrB w p ao B) (a1 : Apart p ao pa c.P) (a2 : Apart p ao ea c.E) (a3 : Apart p ao lo l) (b r : Int) :
  Calls Tryz.prog 135 #[.pointer (some ⟨p, 0, none⟩), riceV c pa pc ea ec, .int .i64 b, .int .i64 r, .slice lo l.length cap] w fun en w' => en = .returned (.int .i64 (encN c b r l)) ∧ ∃ ao', WrB w' p ao' (B ++ encL c b r l) ∧ Stays (foot p ao) w w' ∧ Moved w.heap.size ao ao' := by
 cases hR : encR c b r l with
 | true =>
  have e1 : encN c b r l = 0 := by unfold encN; rw [hR]; rfl
  have e2 : encL c b r l = encB c b.toNat r.toNat l := by unfold encL; rw [hR]; rfl
  rw [e1, e2]
  obtain ⟨b', o', r', rfl, rfl, hk, hf⟩ := encR_yes hR
  exact encode_ok c l hs pa pc ea ec lo cap hc h0 p ao B h01 hB w hr hl hw a1 a2 a3 b' o' r' hk hf
 | false =>
  have e1 : encN c b r l = 60 := by unfold encN; rw [hR]; rfl
  have e2 : encL c b r l = [] := by unfold encL; rw [hR]; rfl
  rw [e1, e2, List.append_nil]
  have fin : ∀ (e : Ending) (w' : World), e = .returned (.int .i64 60) ∧ Below w.heap.size w w' → e = .returned (.int .i64 60) ∧ ∃ ao', WrB w' p ao' B ∧ Stays (foot p ao) w w' ∧ Moved w.heap.size ao ao' := fun e w' hh => ⟨hh.1, ao, hw.below hh.2, Stays.of_below hh.2 _, Moved.refl _ _⟩
  by_cases hch : chkOk c b r
  ·obtain ⟨b', r', o', rfl, rfl, hk⟩ := Rok.of hch
   have e : c.o.toNat = o' := by have := hk.ho; omega
   have hf : fitB c b' o' r' l = false := by
    unfold encR at hR
    rw [decide_eq_true hch, e] at hR
    simpa using hR
   exact (encode_fit c l hs pa pc ea ec lo cap hc h0 p ao B h01 hB w hr hl hw b' o' r' hk hf).mono fin
  ·exact (encode_chk c l hs pa pc ea ec lo cap hc h0 p ao B h01 hB w hr hl hw b r hch).mono fin
theorem ahead_01 (s : ByteArray) (a : Nat) : Bits01 (ahead s a) := (sbits_01 _).drop a
theorem ahead_cut (s : ByteArray) (a k : Nat) (h : a + k ≤ 8 * s.size) : ahead s a = bitsOf (bitsAt s a k) k ++ ahead s (a + k) := by
 have hl : ((ahead s a).take k).length = k := by rw [List.length_take, ahead_length]; omega
 have e : bitsAt s a k = num ((ahead s a).take k) := rfl
 have h1 := bitsOf_num _ ((ahead_01 s a).take k)
 rw [hl] at h1
 rw [e, h1, ← ahead_drop, List.take_append_drop]
theorem get_again (s : ByteArray) (a : Nat) (k : Int) (h : getE s a k = 0) : putE (getV s a k) k = 0 ∧ ahead s a = putB (getV s a k) k ++ ahead s (getA s a k) ∧ getA s a k = a + (putB (getV s a k) k).length := by
 have hk : 0 ≤ k ∧ k ≤ 64 ∧ a + k.toNat ≤ 8 * s.size := by
  unfold getE at h
  split at h
  ·cases h
  ·split at h
   ·cases h
   ·omega
 have hv : getV s a k = (bitsAt s a k.toNat : Int) := getV_nat s a k h
 have hlt : getV s a k < 2 ^ k.toNat := (getV_bound s a k).2
 have hA : getA s a k = a + k.toNat := by unfold getA; rw [if_pos h]
 have hB : putB (getV s a k) k = bitsOf (bitsAt s a k.toNat) k.toNat := by
  unfold putB
  rw [if_pos ⟨hk.1, hk.2.1, hlt⟩, hv, Int.toNat_natCast]
 refine ⟨by unfold putE; rw [if_pos ⟨hk.1, hk.2.1, hlt⟩], ?_, ?_⟩
 ·rw [hB, hA]; exact ahead_cut s a k.toNat hk.2.2
 ·rw [hB, hA, bitsOf_length]
def foreS (C l : List Int) (a : Nat) : Nat → Int
 | 0 => 0
 | i + 1 => wrap64 (foreS C l a i + wrap64 (C.getD i 0 * l.getD (a - 1 - i) 0))
def foreN (C : List Int) (sh : Nat) (l : List Int) (a : Nat) : Int := foreS C l a C.length / 2 ^ sh
def leftN (C : List Int) (sh : Nat) (l : List Int) : Nat → List Int
 | 0 => []
 | n + 1 => leftN C sh l n ++ [wrap64 (l.getD (C.length + n) 0 - foreN C sh l (C.length + n))]
abbrev Rng (l : List Int) : Prop := ∀ n ∈ l, -9223372036854775808 ≤ n ∧ n ≤ 9223372036854775807
theorem wrap_rng (n : Int) : -9223372036854775808 ≤ wrap64 n ∧ wrap64 n ≤ 9223372036854775807 := by unfold wrap64; omega
theorem foreS_rng (C l : List Int) (a k : Nat) : -9223372036854775808 ≤ foreS C l a k ∧ foreS C l a k ≤ 9223372036854775807 := by
 cases k with
 | zero => unfold foreS; omega
 | succ k => exact wrap_rng _
theorem shr_rng (x : Int) (sh : Nat) (h : -9223372036854775808 ≤ x ∧ x ≤ 9223372036854775807) : -9223372036854775808 ≤ x / 2 ^ sh ∧ x / 2 ^ sh ≤ 9223372036854775807 := by
 have hp : (1 : Int) ≤ 2 ^ sh := by
  have := Nat.one_le_two_pow (n := sh)
  have e : ((2 ^ sh : Nat) : Int) = (2 : Int) ^ sh := by simp
  omega
 generalize (2 : Int) ^ sh = P at *
 refine ⟨?_, ?_⟩
 ·refine Int.le_ediv_of_mul_le (by omega) ?_
  have : (-9223372036854775808 : Int) * P ≤ -9223372036854775808 * 1 := Int.mul_le_mul_of_nonpos_left (by omega) (by omega)
  omega
 ·by_cases h0 : 0 ≤ x
  ·have := Int.ediv_le_self P h0; omega
  ·have := Int.ediv_neg_of_neg_of_pos (show x < 0 by omega) (show (0 : Int) < P by omega); omega
theorem leftN_len (C : List Int) (sh : Nat) (l : List Int) (n : Nat) : (leftN C sh l n).length = n := by
 induction n with
 | zero => rfl
 | succ n ih => unfold leftN; rw [List.length_append, ih]; rfl
theorem leftN_rng (C : List Int) (sh : Nat) (l : List Int) (n : Nat) : Rng (leftN C sh l n) := by
 induction n with
 | zero => intro x hx; cases hx
 | succ n ih =>
  intro x hx
  rcases List.mem_append.1 hx with hx | hx
  ·exact ih x hx
  ·rw [List.mem_singleton] at hx; rw [hx]; exact wrap_rng _
theorem getD_app_left (a b : List Int) (i : Nat) (h : i < a.length) : (a ++ b).getD i 0 = a.getD i 0 := by
 rw [List.getD_eq_getElem?_getD, List.getD_eq_getElem?_getD, List.getElem?_append_left h]
theorem getD_app_len (a : List Int) (x : Int) : (a ++ [x]).getD a.length 0 = x := by
 rw [List.getD_eq_getElem?_getD, List.getElem?_append_right (Nat.le_refl _), Nat.sub_self]; rfl
theorem leftN_at (C : List Int) (sh : Nat) (l : List Int) (n i : Nat) (h : i < n) : (leftN C sh l n).getD i 0 = wrap64 (l.getD (C.length + i) 0 - foreN C sh l (C.length + i)) := by
 induction n with
 | zero => omega
 | succ n ih =>
  have hl := leftN_len C sh l n
  unfold leftN
  by_cases e : i = n
  ·subst e
   have h2 := getD_app_len (leftN C sh l i) (wrap64 (l.getD (C.length + i) 0 - foreN C sh l (C.length + i)))
   rw [hl] at h2; exact h2
  ·rw [getD_app_left _ _ _ (by omega)]; exact ih (by omega)
def wF (o : Nat) : List Int := if o = 0 then [] else if o = 1 then [1] else if o = 2 then [2, -1] else if o = 3 then [3, -3, 1] else [4, -6, 4, -1]
theorem wF_len (o : Nat) (h : o ≤ 4) : (wF o).length = o := by
 rcases (show o = 0 ∨ o = 1 ∨ o = 2 ∨ o = 3 ∨ o = 4 by omega) with rfl | rfl | rfl | rfl | rfl <;> rfl
def dvB (l : List Int) (k : Nat) : Bool := l.all fun n => n % 2 ^ k == 0
theorem dvB_iff (l : List Int) (k : Nat) : dvB l k = true ↔ ∀ n ∈ l, n % 2 ^ k = 0 := by unfold dvB; simp
theorem dvB_mono (l : List Int) (j k : Nat) (h : j ≤ k) (hk : dvB l k = true) : dvB l j = true := by
 rw [dvB_iff] at *
 intro n hn
 have h1 := hk n hn
 have h2 : (2 : Int) ^ k = 2 ^ j * 2 ^ (k - j) := by rw [← Int.pow_add]; congr 1; omega
 have h3 : (2 : Int) ^ k ∣ n := Int.dvd_of_emod_eq_zero h1
 rw [h2] at h3
 exact Int.emod_eq_zero_of_dvd (Int.dvd_trans (Int.dvd_mul_right _ _) h3)
def wasK (l : List Int) : Nat → Nat
 | 0 => 0
 | k + 1 => if dvB l (k + 1) = true then k + 1 else wasK l k
def zerB (l : List Int) : Bool := l.all fun n => n == 0
def wasN (l : List Int) : Nat := if zerB l = true then 0 else wasK l 31
theorem wasK_le (l : List Int) (k : Nat) : wasK l k ≤ k := by
 induction k with
 | zero => exact Nat.le_refl _
 | succ k ih => unfold wasK; split <;> omega
theorem wasN_le (l : List Int) : wasN l ≤ 31 := by unfold wasN; split; omega; exact wasK_le l 31
theorem wasK_is (l : List Int) (n K : Nat) (hn : n ≤ K) (h1 : dvB l n = true) (h2 : n = K ∨ dvB l (n + 1) = false) : wasK l K = n := by
 induction K with
 | zero => unfold wasK; omega
 | succ K ih =>
  unfold wasK
  by_cases e : n = K + 1
  ·subst e; rw [if_pos h1]
  ·rcases h2 with h2 | h2
   ·omega
   ·have h3 : ¬ dvB l (K + 1) = true := fun h => by
     have := dvB_mono l (n + 1) (K + 1) (by omega) h
     rw [h2] at this; cases this
    rw [if_neg h3]
    exact ih (by omega) (Or.inr h2)
theorem dvB_zero (l : List Int) : dvB l 0 = true := by rw [dvB_iff]; intro n _; simp [Int.emod_one]
theorem wasK_dvB (l : List Int) (k : Nat) : dvB l (wasK l k) = true := by
 induction k with
 | zero => exact dvB_zero l
 | succ k ih => unfold wasK; split; assumption; exact ih
theorem wasN_dvB (l : List Int) : dvB l (wasN l) = true := by unfold wasN; split; exact dvB_zero l; exact wasK_dvB l 31
def shrL (l : List Int) (k : Nat) : List Int := l.map fun n => n / 2 ^ k
structure Sb where
 k : Int
 o : Int
 w : Int
 p : Int
 h : Int
 C : List Int
 R : Rc
abbrev bareOk (s : Sb) : Prop := s.p = 0 ∧ s.h = 0 ∧ s.C = []
abbrev plnOk (s : Sb) : Prop := s.o = 0 ∧ s.R = ⟨0, 0, [], []⟩
abbrev kdA (s : Sb) : Prop := (s.k = 0 ∨ s.k = 1) ∧ bareOk s ∧ plnOk s
abbrev kdF (s : Sb) (b : Int) : Prop := s.k = 2 ∧ bareOk s ∧ 0 ≤ s.o ∧ s.o ≤ 4 ∧ s.o ≤ b ∧ chkOk s.R b s.o
abbrev kdL (s : Sb) (b : Int) : Prop := s.k = 3 ∧ 1 ≤ s.o ∧ s.o ≤ 32 ∧ s.o ≤ b ∧ 1 ≤ s.p ∧ s.p ≤ 15 ∧ 0 ≤ s.h ∧ s.h ≤ 15 ∧ (s.C.length : Int) = s.o ∧ (∀ x ∈ s.C, sigE x s.p = 0) ∧ chkOk s.R b s.o
abbrev subOk (s : Sb) (b v : Int) : Prop := (1 ≤ b ∧ b ≤ 65535) ∧ (1 ≤ v ∧ v ≤ 33) ∧ (0 ≤ s.w ∧ s.w < v) ∧ (kdA s ∨ kdF s b ∨ kdL s b)
def resN (s : Sb) (m : List Int) : List Int := if s.k = 2 then leftN (wF s.o.toNat) 0 m (m.length - s.o.toNat) else leftN s.C s.h.toNat m (m.length - s.o.toNat)
abbrev goesOk (s : Sb) (v : Int) (l : List Int) : Prop := (∀ x ∈ l, sigE x v = 0) ∧ dvB l s.w.toNat = true ∧ (s.k = 0 → ∀ x ∈ l, x = l.getD 0 0) ∧ (s.k = 2 ∨ s.k = 3 → encR s.R l.length s.o (resN s (shrL l s.w.toNat)) = true)
def typN (s : Sb) : Int := if s.k = 0 then 0 else if s.k = 1 then 1 else if s.k = 2 then 8 + s.o else 31 + s.o
def wstB (w : Int) : List Nat := if 0 < w then putB 1 1 ++ unrB (w - 1) else putB 0 1
def bodyB (s : Sb) (v : Int) (m : List Int) : List Nat :=
 if s.k = 0 then sigB (m.getD 0 0) (v - s.w)
 else if s.k = 1 then numsB 0 (v - s.w) m
 else if s.k = 2 then numsB 0 (v - s.w) (m.take s.o.toNat) ++ encB s.R m.length s.o.toNat (resN s m)
 else numsB 0 (v - s.w) (m.take s.o.toNat) ++ (putB (s.p - 1) 4 ++ (putB s.h 5 ++ (numsB 0 s.p s.C ++ encB s.R m.length s.o.toNat (resN s m))))
def subB (s : Sb) (v : Int) (l : List Int) : List Nat := putB (typN s) 7 ++ (wstB s.w ++ bodyB s v (shrL l s.w.toNat))
theorem sigE_iff (x v : Int) : sigE x v = 0 ↔ 1 ≤ v ∧ v ≤ 64 ∧ -2 ^ (v.toNat - 1) ≤ x ∧ x < 2 ^ (v.toNat - 1) := by
 unfold sigE
 constructor
 ·intro h
  split at h
  ·assumption
  ·cases h
 ·intro h; rw [if_pos h]
theorem pow_int (k : Nat) : (2 : Int) ^ k = ((2 ^ k : Nat) : Int) := by simp
theorem fit_div (x : Int) (v w : Nat) (hw : w < v) (hf : sigE x v = 0) (hd : x % 2 ^ w = 0) : sigE (x / 2 ^ w) ((v - w : Nat) : Int) = 0 := by
 rw [sigE_iff] at hf ⊢
 obtain ⟨h1, h2, h3, h4⟩ := hf
 rw [Int.toNat_natCast] at h3 h4 ⊢
 have hp : (2 : Int) ^ (v - 1) = 2 ^ (v - w - 1) * 2 ^ w := by rw [← Int.pow_add]; congr 1; omega
 have hq : (0 : Int) < 2 ^ w := Int.pow_pos (by decide)
 have hx : x / 2 ^ w * 2 ^ w = x := Int.ediv_mul_cancel (Int.dvd_of_emod_eq_zero hd)
 rw [hp] at h3 h4
 refine ⟨by omega, by omega, ?_, ?_⟩
 ·rw [← hx, ← Int.neg_mul] at h3
  exact Int.le_of_mul_le_mul_right h3 hq
 ·rw [← hx] at h4
  exact Int.lt_of_mul_lt_mul_right h4 (Int.le_of_lt hq)
theorem shr_len (l : List Int) (k : Nat) : (shrL l k).length = l.length := List.length_map ..
abbrev R0 : Rc := ⟨0, 0, [], []⟩
abbrev kinds (k o : Int) : Prop := (k = 0 ∧ o = 0) ∨ (k = 1 ∧ o = 0) ∨ (k = 2 ∧ 0 ≤ o ∧ o ≤ 4) ∨ (k = 3 ∧ 1 ≤ o ∧ o ≤ 32)
theorem kd_kinds {s : Sb} {b : Int} (h : kdA s ∨ kdF s b ∨ kdL s b) : kinds s.k s.o := by
 unfold kinds
 rcases h with h | h | h
 ·obtain ⟨h1, _, h3, _⟩ := h; omega
 ·obtain ⟨h1, _, h3, h4, _⟩ := h; omega
 ·obtain ⟨h1, h2, h3, _⟩ := h; omega
theorem numsB_fit_len (v : Int) (m : List Int) (hv : v ≤ 64) (hv1 : 1 ≤ v) : (numsB 0 v m).length ≤ 64 * m.length := by
 induction m with
 | nil => simp [numsB]
 | cons x t ih =>
  have e : numsB 0 v (x :: t) = oneB 0 v x ++ numsB 0 v t := by simp [numsB]
  have h1 : (oneB 0 v x).length ≤ 64 := by
   unfold oneB sigB
   rw [if_neg (by omega), if_neg (by omega)]
   split
   ·rw [bitsOf_length]; omega
   ·simp
  rw [e, List.length_append, List.length_cons]; omega
theorem wrap_is (n : Int) : IntKind.i64.wrap n = wrap64 n := by unfold wrap64; exact IntKind.wrap_i64 n
theorem own_low {N : Nat} {e : TypeId} {z : Nat} {v : Value} {n : Nat} {xs : List Value} {w w' : World} (h : w.ownsRow N e z v n xs) (hb : Below w.heap.size w w') : w'.ownsRow N e z v n xs := by
 refine h.kept (row := none) ⟨hb.os, hb.tape, hb.output, hb.size, fun k hk _ => hb.block k hk⟩ ?_
 cases e : v.ownBlock with
 | none => exact .inl rfl
 | some g => exact .inr (fun h => by cases h)
theorem own_ints {N : Nat} {ao : Option Addr} {cap : Nat} {L : List Int} {w : World} (h : w.ownsRow N 3 1 (.slice ao L.length cap) L.length (intsC L)) (hl : L.length ≤ 17592186044415) (hn : ∀ n ∈ L, -9223372036854775808 ≤ n ∧ n ≤ 9223372036854775807) : IntsAt w ao L := by
 refine ⟨hl, hn, fun h0 => ?_⟩
 obtain ⟨g, c, e, _, _⟩ := h.form h0
 simp only [Value.slice.injEq, true_and] at e
 obtain ⟨rfl, rfl⟩ := e
 refine ⟨g, 0, rfl, fun j hj => ?_⟩
 rw [Nat.zero_add, h.cellAt j (by omega)]
 simp [intsC, List.getD_eq_getElem?_getD, List.getElem?_eq_getElem hj]
theorem int_info : ∃ i, Tryz.prog.info? 3 = some i ∧ i.zero = some (.int .i64 0) ∧ i.size = 1 ∧ i.bytes = 8 := by
 have h : (Tryz.prog.info? 3).map (fun i => (i.zero, i.size, i.bytes)) = some (some (.int .i64 0), 1, 8) := by kernel_rfl
 cases hq : Tryz.prog.info? 3 with
 | none => rw [hq] at h; cases h
 | some i =>
  rw [hq] at h
  simp only [Option.map_some, Option.some.injEq, Prod.mk.injEq] at h
  exact ⟨i, rfl, h.1, h.2.1, h.2.2⟩
theorem undI3 : Tryz.prog.underlying 22 = some (.slice 3) := by kernel_rfl
theorem cell_row {w : World} {b : Nat} {cs : Array Value} {t : TypeId} {fr : Nat × Nat} (h : w.heap[b]? = some (.cells cs t fr)) (j : Nat) : w.cell? ⟨b, j, none⟩ = cs[j]? := by
 simp [World.cell?, h]
theorem ints_new (w : World) (l : List Int) (hl : l.length ≤ 1000) (hn : ∀ n ∈ l, -9223372036854775808 ≤ n ∧ n ≤ 9223372036854775807) : IntsAt (w.alloc (.cells (intsC l).toArray 3)) (some ⟨w.heap.size, 0, none⟩) l := by
 refine ⟨by omega, hn, fun h0 => ⟨w.heap.size, 0, rfl, fun j hj => ?_⟩⟩
 rw [cell_row (heap_alloc_new _ _)]
 rw [Nat.zero_add, List.getElem?_toArray]
 unfold intsC
 rw [List.getElem?_map, List.getElem?_eq_getElem hj, List.getD_eq_getElem?_getD, List.getElem?_eq_getElem hj]
 rfl
theorem IntsAt.nil (w : World) : IntsAt w none [] := ⟨by simp, by simp, fun h => by simp at h⟩
end Go.Proofs.YthgpleelpeacjaaGreatDoor
