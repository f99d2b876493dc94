/- Own text: the walk of the program's Encode. -/
import Derived.Test.YtdlakbgcflekkaaQ8part
namespace Go.Proofs.Ytdlakbgcflekkaa
open Go.RowKit
set_option linter.unusedSimpArgs false
set_option linter.unusedVariables false

structure ES (w : World) (c : Rc) (pa : Option Addr) (pc : Nat) (ea : Option Addr) (ec : Nat) (q : Nat) (N d r : Int) (p : Nat) (ao aj : Option Addr) (B : List Nat) (wx : World) : Prop where
  wb : WB w p ao aj B (q + 1) wx
  bx : wx.heap[w.heap.size]? = some (.cells (riceC c pa pc ea ec) 24 (0, 0))
  bq : wx.heap[q]? = some (.cells #[.int .i64 N, .int .i64 d, .int .i64 r] 66 (0, 0))
  lt : w.heap.size < q
section
variable {w wx w' : World} {c : Rc} {pa : Option Addr} {pc : Nat} {ea : Option Addr} {ec : Nat} {q : Nat} {N d r : Int} {p : Nat} {ao aj aj' : Option Addr} {B B' : List Nat}
theorem ES.start (h : CB w c pa pc ea ec q N d r wx) (hw : WrB w p ao B) : ES w c pa pc ea ec q N d r p ao ao B wx :=
  ⟨WB.start hw h.rb.below _ (lt_of_block h.box), h.rb.box, h.box, h.lt⟩
theorem ES.low (h : ES w c pa pc ea ec q N d r p ao aj B wx) (hb : Below wx.heap.size wx w') : ES w c pa pc ea ec q N d r p ao aj B w' :=
  ⟨h.wb.low hb, by rw [hb.block _ (lt_of_block h.bx)]; exact h.bx, by rw [hb.block _ (lt_of_block h.bq)]; exact h.bq, h.lt⟩
theorem ES.put (h : ES w c pa pc ea ec q N d r p ao aj B wx) (hw : WrB w' p aj' B') (hS : Stays (foot p aj) wx w') (hM : Moved wx.heap.size aj aj') : ES w c pa pc ea ec q N d r p ao aj' B' w' :=
  ⟨h.wb.put hw hS hM, by rw [h.wb.box hS _ (Nat.le_refl _) (by have := h.lt; omega)]; exact h.bx, by rw [h.wb.box hS _ (Nat.le_of_lt h.lt) (by omega)]; exact h.bq, h.lt⟩
theorem ES.cells (h : ES w c pa pc ea ec q N d r p ao aj B wx) : wx.cell? ⟨w.heap.size, 0, none⟩ = some (.int .i64 c.m) ∧ wx.cell? ⟨w.heap.size, 1, none⟩ = some (.int .i64 c.o) ∧ wx.cell? ⟨w.heap.size, 2, none⟩ = some (.slice pa c.P.length pc) ∧ wx.cell? ⟨w.heap.size, 3, none⟩ = some (.slice ea c.E.length ec) ∧ wx.cell? ⟨q, 0, none⟩ = some (.int .i64 N) ∧ wx.cell? ⟨q, 1, none⟩ = some (.int .i64 d) ∧ wx.cell? ⟨q, 2, none⟩ = some (.int .i64 r) := by
  obtain ⟨x0, x1, x2, x3⟩ := RB.of_box h.bx
  refine ⟨x0, x1, x2, x3, ?_, ?_, ?_⟩ <;> (rw [cell_of_row _ _ _ _ _ _ h.bq]; rfl)
end
theorem encode_nil (v : Value) (c : Rc) (b r : Int) (pa : Option Addr) (pc : Nat) (ea : Option Addr) (ec : Nat) (w : World) :
    Calls Try.prog 13 #[.pointer none, riceV c pa pc ea ec, .int .i64 b, .int .i64 r, v] w fun en w' => en = .returned (.int .i64 1) ∧ Below w.heap.size w w' := by
  have HB1 : Hid (Below w.heap.size w (w.alloc (.cells (riceC c pa pc ea ec) 24))) := (Below.refl _ _).alloc (Nat.le_refl _) _
  go_enter Try.func13, Try.ntmps13
  go_wp2_with fail
  go_ret
  exact ⟨rfl, HB1.out⟩
set_option maxRecDepth 20000 in
set_option maxHeartbeats 3200000 in
theorem encode_chk (c : Rc) (l : List Int) (hs : ShX l) (pa : Option Addr) (pc : Nat) (ea : Option Addr) (ec : Nat) (lo : Option Addr) (cap : Nat) (hc : l.length ≤ cap) (h0 : lo = none → cap = 0) (p : Nat) (ao : Option Addr) (B : List Nat) (h01 : Bits01 B) (hB : B.length ≤ 100000000000) (w : World) (hr : RcAt w c pa ea) (hl : IntsAt w lo l) (hw : WrB w p ao B) (b r : Int) (hno : ¬ chkOk c b r) :
    Calls Try.prog 13 #[.pointer (some ⟨p, 0, none⟩), riceV c pa pc ea ec, .int .i64 b, .int .i64 r, .slice lo l.length cap] w fun en w' => en = .returned (.int .i64 60) ∧ Below w.heap.size w w' := by
  have HB0 : Hid (RB w c pa pc ea ec (w.alloc (.cells (riceC c pa pc ea ec) 24))) := RB.new w c pa pc ea ec
  have KC : Hid (∀ wx, Below w.heap.size w wx → Calls Try.prog 18 #[riceV c pa pc ea ec, .int .i64 b, .int .i64 r] wx fun en w' => en = .returned (.int .i64 60) ∧ Below wx.heap.size wx w') := fun wx hb => (check_spec c b r pa pc ea ec wx (hr.below hb)).mono fun e w' hh => ⟨by rw [hh.1, chk_no hno], hh.2⟩
  clear hno hr hl hw hs
  go_enter Try.func13, Try.ntmps13
  go_wp2_with fail
  generalize hwa : w.alloc _ = wa at *
  clear hwa
  refine (KC.out wa HB0.out.below).mono ?_
  rintro e w2 ⟨rfl, hb2⟩
  have HR2 : Hid (Below w.heap.size w w2) := (HB0.out.next hb2).below
  clear hb2
  go_wp2_with fail
  go_ret
  exact ⟨rfl, HR2.out⟩
set_option maxRecDepth 20000 in
set_option maxHeartbeats 3200000 in
theorem encode_fit (c : Rc) (l : List Int) (hs : ShX l) (pa : Option Addr) (pc : Nat) (ea : Option Addr) (ec : Nat) (lo : Option Addr) (cap : Nat) (hc : l.length ≤ cap) (h0 : lo = none → cap = 0) (p : Nat) (ao : Option Addr) (B : List Nat) (h01 : Bits01 B) (hB : B.length ≤ 100000000000) (w : World) (hr : RcAt w c pa ea) (hl : IntsAt w lo l) (hw : WrB w p ao B) (b o r : Nat) (h : Rok c b o r) (hf : fitB c b o r l = false) :
    Calls Try.prog 13 #[.pointer (some ⟨p, 0, none⟩), riceV c pa pc ea ec, .int .i64 (b : Int), .int .i64 (r : Int), .slice lo l.length cap] w fun en w' => en = .returned (.int .i64 60) ∧ Below w.heap.size w w' := by
  have HB0 : Hid (RB w c pa pc ea ec (w.alloc (.cells (riceC c pa pc ea ec) 24))) := RB.new w c pa pc ea ec
  have KC : Hid (∀ wx, Below w.heap.size w wx → Calls Try.prog 18 #[riceV c pa pc ea ec, .int .i64 (b : Int), .int .i64 (r : Int)] wx fun en w' => en = .returned (.int .i64 0) ∧ Below wx.heap.size wx w') := fun wx hb => (check_spec c b r pa pc ea ec wx (hr.below hb)).mono fun e w' hh => ⟨by rw [hh.1, chk_yes h.chk], hh.2⟩
  have KU : Hid (∀ wx, Calls Try.prog 31 #[.int .i64 (b : Int), .int .i64 (r : Int), .int .i64 c.o] wx fun e w' => e = .returned (.tuple #[cutV ((2 ^ o : Nat) : Int) ((b / 2 ^ o : Nat) : Int) (r : Int), .bool true]) ∧ Below wx.heap.size wx w') := fun wx => by rw [h.ho]; exact cutOf_yes b o r h.cut wx
  have KF : Hid (∀ wx, Below w.heap.size w wx → Calls Try.prog 32 #[riceV c pa pc ea ec, cutV ((2 ^ o : Nat) : Int) ((b / 2 ^ o : Nat) : Int) (r : Int), .slice lo l.length cap] wx fun en w' => en = .returned (.bool (fitB c b o r l)) ∧ Below wx.heap.size wx w') := fun wx hb => fit_spec c b o r l h hs pa pc ea ec lo cap hc h0 wx (hr.below hb) (hl.below hb)
  rw [hf] at KF
  clear hr hl hw hs h hf
  generalize hpn : 2 ^ o = N at *
  generalize b / N = d at *
  clear hpn
  go_enter Try.func13, Try.ntmps13
  go_wp2_with fail
  generalize hwa : w.alloc _ = wa at *
  clear hwa
  refine (KC.out wa HB0.out.below).mono ?_
  rintro e w2 ⟨rfl, hb2⟩
  have HR2 : Hid (RB w c pa pc ea ec w2) := HB0.out.next hb2
  clear hb2
  have x1 := HR2.out.c1
  go_wp2_with fail
  refine (KU.out w2).mono ?_
  rintro e w3 ⟨rfl, hb3⟩
  have HC4 : Hid (CB w c pa pc ea ec w3.heap.size (N : Int) (d : Int) (r : Int) (w3.alloc (.cells #[.int .i64 (N : Int), .int .i64 (d : Int), .int .i64 (r : Int)] 66))) := CB.new (HR2.out.next hb3) _ _ _
  clear hb3 x1 HR2
  have x0 := HC4.out.rb.c0
  have x1 := HC4.out.rb.c1
  have x2 := HC4.out.rb.c2
  have x3 := HC4.out.rb.c3
  go_wp2_with fail
  generalize hwd : w3.alloc _ = wd at *
  generalize w3.heap.size = q at *
  clear hwd x0 x1 x2 x3
  refine (KF.out wd HC4.out.rb.below).mono ?_
  rintro e w5 ⟨rfl, hb5⟩
  have HC5 : Hid (CB w c pa pc ea ec q (N : Int) (d : Int) (r : Int) w5) := HC4.out.next hb5
  clear hb5 HC4

  go_wp2_with fail
  go_ret
  exact ⟨rfl, HC5.out.rb.below⟩
set_option maxRecDepth 20000 in
set_option maxHeartbeats 3200000 in
theorem encode_ok (c : Rc) (l : List Int) (hs : ShX l) (pa : Option Addr) (pc : Nat) (ea : Option Addr) (ec : Nat) (lo : Option Addr) (cap : Nat) (hc : l.length ≤ cap) (h0 : lo = none → cap = 0) (p : Nat) (ao : Option Addr) (B : List Nat) (h01 : Bits01 B) (hB : B.length ≤ 100000000000) (w : World) (hr : RcAt w c pa ea) (hl : IntsAt w lo l) (hw : WrB w p ao B) (a1 : Apart p ao pa c.P) (a2 : Apart p ao ea c.E) (a3 : Apart p ao lo l) (b o r : Nat) (h : Rok c b o r) (hf : fitB c b o r l = true) :
    Calls Try.prog 13 #[.pointer (some ⟨p, 0, none⟩), riceV c pa pc ea ec, .int .i64 (b : Int), .int .i64 (r : Int), .slice lo l.length cap] w fun en w' => en = .returned (.int .i64 0) ∧ ∃ ao', WrB w' p ao' (B ++ encB c b r l) ∧ Stays (foot p ao) w w' ∧ Moved w.heap.size ao ao' := by
  have HB0 : Hid (RB w c pa pc ea ec (w.alloc (.cells (riceC c pa pc ea ec) 24))) := RB.new w c pa pc ea ec
  have KC : Hid (∀ wx, Below w.heap.size w wx → Calls Try.prog 18 #[riceV c pa pc ea ec, .int .i64 (b : Int), .int .i64 (r : Int)] wx fun en w' => en = .returned (.int .i64 0) ∧ Below wx.heap.size wx w') := fun wx hb => (check_spec c b r pa pc ea ec wx (hr.below hb)).mono fun e w' hh => ⟨by rw [hh.1, chk_yes h.chk], hh.2⟩
  have KU : Hid (∀ wx, Calls Try.prog 31 #[.int .i64 (b : Int), .int .i64 (r : Int), .int .i64 c.o] wx fun e w' => e = .returned (.tuple #[cutV ((2 ^ o : Nat) : Int) ((b / 2 ^ o : Nat) : Int) (r : Int), .bool true]) ∧ Below wx.heap.size wx w') := fun wx => by rw [h.ho]; exact cutOf_yes b o r h.cut wx
  have KF : Hid (∀ wx, Below w.heap.size w wx → Calls Try.prog 32 #[riceV c pa pc ea ec, cutV ((2 ^ o : Nat) : Int) ((b / 2 ^ o : Nat) : Int) (r : Int), .slice lo l.length cap] wx fun en w' => en = .returned (.bool (fitB c b o r l)) ∧ Below wx.heap.size wx w') := fun wx hb => fit_spec c b o r l h hs pa pc ea ec lo cap hc h0 wx (hr.below hb) (hl.below hb)
  rw [hf] at KF
  obtain ⟨hlen, hfit⟩ := (fitB_iff c b o r l).1 hf
  have hot : c.o.toNat = o := by have := h.ho; omega
  have HEB : Hid (encB c b r l = putB c.m 2 ++ putB c.o 4 ++ partsB c b o r l (2 ^ o)) := by show _ = _; unfold encB; rw [hot]
  have hm0 := h.m0
  have hm1 := h.m1
  have ho15 := h.cut.o15
  have hco := h.ho
  have HW : Hid (WrB w p ao B) := hw
  have hl5 := hs.2
  have hp15 := pow15 o ho15
  have HLB : Hid (∀ n, n ≤ 2 ^ o → (B ++ putB c.m 2 ++ putB c.o 4 ++ partsB c b o r l n).length ≤ 200000000000) := fun n hn => by
    have h1 := parts_room c hm1 h.cut l hlen n hn hl5
    have h2 := putB_short c.m 2 (by omega)
    have h3 := putB_short c.o 4 (by omega)
    simp only [List.length_append]
    omega
  have H01 : Hid (∀ n, Bits01 (B ++ putB c.m 2 ++ putB c.o 4 ++ partsB c b o r l n)) := fun n => (((h01.append (putB_01 _ _)).append (putB_01 _ _)).append (partsB_01 _ _ _ _ _ _))
  have HPS : Hid (∀ n, partsB c b o r l (n + 1) = partsB c b o r l n ++ (headB c.m (c.P.getD n 0) (c.E.getD n 0) ++ numsB (c.P.getD n 0) (c.E.getD n 0) (partN l b o r n))) := fun n => partsB_succ c b o r l n
  have HKH : Hid (∀ (j : Nat) aj BJ wx q' N' d' r', j < 2 ^ o → Bits01 BJ → BJ.length ≤ 300000000000 → Hid (ES w c pa pc ea ec q' N' d' r' p ao aj BJ wx) → Calls Try.prog 33 #[.pointer (some ⟨p, 0, none⟩), riceV c pa pc ea ec, .int .i64 (j : Int)] wx fun en w' => en = .returned (.tuple #[]) ∧ ∃ ao', Hid (ES w c pa pc ea ec q' N' d' r' p ao ao' (BJ ++ headB c.m (c.P.getD j 0) (c.E.getD j 0)) w')) := fun j aj BJ wx q' N' d' r' hj hb hl hE =>
    (writeHead_spec c b o r j h hj pa pc ea ec p aj BJ hb (by omega) wx ⟨hE.out.wb.ints hr.P a1, hE.out.wb.ints hr.E a2, hr.m1, hr.m2, hr.o1, hr.o2⟩ hE.out.wb.wr (a1.moved hr.P hE.out.wb.mv) (a2.moved hr.E hE.out.wb.mv)).mono fun e w' hh => by
      obtain ⟨h1, ao', h2, h3, h4⟩ := hh
      exact ⟨h1, ao', hE.out.put h2 h3 h4⟩
  have HKQ : Hid (∀ (j : Nat) aj BJ wx q' N' r', j < 2 ^ o → Hid (ES w c pa pc ea ec q' N' ((b / 2 ^ o : Nat) : Int) r' p ao aj BJ wx) → Calls Try.prog 35 #[cutV N' ((b / 2 ^ o : Nat) : Int) (r : Int), .slice lo l.length cap, .int .i64 (j : Int)] wx fun en w' => ∃ xo, en = .returned (.slice xo (partN l b o r j).length (partN l b o r j).length) ∧ Hid (ES w c pa pc ea ec q' N' ((b / 2 ^ o : Nat) : Int) r' p ao aj BJ w') ∧ Hid (IntsAt w' xo (partN l b o r j) ∧ Apart p aj xo (partN l b o r j))) := fun j aj BJ wx q' N' r' hj hE =>
    (partL_spec l b o r j h.cut hj lo cap hlen hc h0 N' wx (hE.out.wb.ints hl a3)).mono fun e w' hh => by
      obtain ⟨xo, h1, h2, h3, h4, _⟩ := hh
      exact ⟨xo, h1, hE.out.low h2, h3, (a3.moved hl hE.out.wb.mv).part h4 (fun hp => by
        have : (partN l b o r j).length ≤ l.length := by unfold partN; rw [List.length_take, List.length_drop]; omega
        omega)⟩
  have HKW : Hid (∀ (j : Nat) aj BJ wx q' N' d' r' xo, j < 2 ^ o → Bits01 BJ → BJ.length ≤ 300000000000 → Hid (ES w c pa pc ea ec q' N' d' r' p ao aj BJ wx) → Hid (IntsAt wx xo (partN l b o r j) ∧ Apart p aj xo (partN l b o r j)) → Calls Try.prog 34 #[.pointer (some ⟨p, 0, none⟩), riceV c pa pc ea ec, .int .i64 (j : Int), .slice xo (partN l b o r j).length (partN l b o r j).length] wx fun en w' => en = .returned (.tuple #[]) ∧ ∃ ao', Hid (ES w c pa pc ea ec q' N' d' r' p ao ao' (BJ ++ numsB (c.P.getD j 0) (c.E.getD j 0) (partN l b o r j)) w')) := fun j aj BJ wx q' N' d' r' xo hj hb hl2 hE hX =>
    (writePart_spec c b o r j h hj (partN l b o r j) (hfit j hj) pa pc ea ec xo _ p aj BJ hb (by
        have : (partN l b o r j).length ≤ l.length := by unfold partN; rw [List.length_take, List.length_drop]; omega
        omega) wx ⟨hE.out.wb.ints hr.P a1, hE.out.wb.ints hr.E a2, hr.m1, hr.m2, hr.o1, hr.o2⟩ hX.out.1 hE.out.wb.wr (a1.moved hr.P hE.out.wb.mv) (a2.moved hr.E hE.out.wb.mv) hX.out.2).mono fun e w' hh => by
      obtain ⟨h1, ao', h2, h3, h4⟩ := hh
      exact ⟨h1, ao', hE.out.put h2 h3 h4⟩
  have HCO : Hid (c.o = (o : Int)) := hco
  have hc0 : 0 ≤ c.o := by omega
  have hc1 : c.o ≤ 15 := by omega
  clear hr hl hw hs h hf hfit hot a1 a2 a3 hco hlen
  generalize hpn : 2 ^ o = N at *
  generalize b / N = d at *
  clear hpn
  go_enter Try.func13, Try.ntmps13
  go_wp2_with fail
  generalize hwa : w.alloc _ = wa at *
  clear hwa
  refine (KC.out wa HB0.out.below).mono ?_
  rintro e w2 ⟨rfl, hb2⟩
  have HR2 : Hid (RB w c pa pc ea ec w2) := HB0.out.next hb2
  clear hb2
  have x1 := HR2.out.c1
  go_wp2_with fail
  refine (KU.out w2).mono ?_
  rintro e w3 ⟨rfl, hb3⟩
  have HC4 : Hid (CB w c pa pc ea ec w3.heap.size (N : Int) (d : Int) (r : Int) (w3.alloc (.cells #[.int .i64 (N : Int), .int .i64 (d : Int), .int .i64 (r : Int)] 66))) := CB.new (HR2.out.next hb3) _ _ _
  clear hb3 x1 HR2
  have x0 := HC4.out.rb.c0
  have x1 := HC4.out.rb.c1
  have x2 := HC4.out.rb.c2
  have x3 := HC4.out.rb.c3
  go_wp2_with fail
  generalize hwd : w3.alloc _ = wd at *
  generalize w3.heap.size = q at *
  clear hwd x0 x1 x2 x3
  refine (KF.out wd HC4.out.rb.below).mono ?_
  rintro e w5 ⟨rfl, hb5⟩
  have HC5 : Hid (CB w c pa pc ea ec q (N : Int) (d : Int) (r : Int) w5) := HC4.out.next hb5
  clear hb5 HC4

  have HE5 : Hid (ES w c pa pc ea ec q (N : Int) (d : Int) (r : Int) p ao ao B w5) := ES.start HC5.out HW.out
  clear HC5 KC KU KF
  obtain ⟨x0, x1, x2, x3, y0, y1, y2⟩ := HE5.out.cells
  have kp := wput_all w5 ao B p c.m 2 (by omega) (by omega) h01 (by omega) HE5.out.wb.wr
  go_wp2_with fail
  refine kp.mono ?_
  rintro e w6 ⟨rfl, ao6, hw6, hs6, hv6⟩
  have HE6 : Hid (ES w c pa pc ea ec q (N : Int) (d : Int) (r : Int) p ao ao6 (B ++ putB c.m 2) w6) := HE5.out.put hw6 hs6 hv6
  clear hw6 hs6 hv6 kp x0 x1 x2 x3 y0 y1 y2 HE5
  obtain ⟨x0, x1, x2, x3, y0, y1, y2⟩ := HE6.out.cells
  have kp := wput_all w6 ao6 (B ++ putB c.m 2) p c.o 4 (by omega) (by omega) (h01.append (putB_01 _ _)) (by rw [List.length_append]; have := putB_short c.m 2 (by omega); omega) HE6.out.wb.wr
  have hcw : IntKind.u64.wrap c.o = c.o := by rw [IntKind.wrap_u64]; omega
  go_wp2_with fail
  refine kp.mono ?_
  rintro e w7 ⟨rfl, ao7, hw7, hs7, hv7⟩
  have HE7 : Hid (ES w c pa pc ea ec q (N : Int) (d : Int) (r : Int) p ao ao7 (B ++ putB c.m 2 ++ putB c.o 4) w7) := HE6.out.put hw7 hs7 hv7
  clear hw7 hs7 hv7 kp x0 x1 x2 x3 y0 y1 y2 HE6 hcw hc0 hc1
  obtain ⟨x0, x1, x2, x3, y0, y1, y2⟩ := HE7.out.cells
  have hn32 := hp15.2
  go_wp2_with fail
  clear x0 x1 x2 x3 y0 y1 y2
  go_loopw [14, 49] (fun s14 s49 wr => ∃ (j : Nat) (aj : Option Addr), j ≤ N ∧ s49 = .int .i64 (j : Int) ∧ ES w c pa pc ea ec q (N : Int) (d : Int) (r : Int) p ao aj (B ++ putB c.m 2 ++ putB c.o 4 ++ partsB c b o r l j) wr) (fun _ s49 _ => N - (intOf s49).toNat)
  case atStart => exact ⟨0, ao7, Nat.zero_le _, rfl, by rw [partsB_zero, List.append_nil]; exact HE7.out⟩
  case round =>
    clear HE7
    obtain ⟨j, aj, hj, rfl, hes⟩ := hrel
    have HE : Hid (ES w c pa pc ea ec q (N : Int) (d : Int) (r : Int) p ao aj (B ++ putB c.m 2 ++ putB c.o 4 ++ partsB c b o r l j) wr) := hes
    clear hes
    by_cases hlt : j < N
    · have HS1 : Hid (B ++ putB c.m 2 ++ putB c.o 4 ++ partsB c b o r l (j + 1) = B ++ putB c.m 2 ++ putB c.o 4 ++ partsB c b o r l j ++ headB c.m (c.P.getD j 0) (c.E.getD j 0) ++ numsB (c.P.getD j 0) (c.E.getD j 0) (partN l b o r j)) := by
        show _ = _
        rw [HPS.out j]
        simp only [List.append_assoc]
      have hlb := HLB.out j (by omega)
      have h01j := H01.out j
      have hhl := headB_len c.m (c.P.getD j 0) (c.E.getD j 0) hm1
      have h01h := headB_01 c.m (c.P.getD j 0) (c.E.getD j 0)
      generalize B ++ putB c.m 2 ++ putB c.o 4 ++ partsB c b o r l j = BJ at *
      have kh := HKH.out j aj BJ wr q (N : Int) (d : Int) (r : Int) hlt h01j (by omega) HE
      have KQ : Hid (∀ wx aj BJ, Hid (ES w c pa pc ea ec q (N : Int) (d : Int) (r : Int) p ao aj BJ wx) → Calls Try.prog 35 #[cutV (N : Int) (d : Int) (r : Int), .slice lo l.length cap, .int .i64 (j : Int)] wx fun en w' => ∃ xo, en = .returned (.slice xo (partN l b o r j).length (partN l b o r j).length) ∧ Hid (ES w c pa pc ea ec q (N : Int) (d : Int) (r : Int) p ao aj BJ w') ∧ Hid (IntsAt w' xo (partN l b o r j) ∧ Apart p aj xo (partN l b o r j))) := fun wx aj BJ hE => HKQ.out j aj BJ wx q (N : Int) (r : Int) hlt hE
      have KW : Hid (∀ wx aj xo, Hid (ES w c pa pc ea ec q (N : Int) (d : Int) (r : Int) p ao aj (BJ ++ headB c.m (c.P.getD j 0) (c.E.getD j 0)) wx) → Hid (IntsAt wx xo (partN l b o r j) ∧ Apart p aj xo (partN l b o r j)) → Calls Try.prog 34 #[.pointer (some ⟨p, 0, none⟩), riceV c pa pc ea ec, .int .i64 (j : Int), .slice xo (partN l b o r j).length (partN l b o r j).length] wx fun en w' => en = .returned (.tuple #[]) ∧ ∃ ao', Hid (ES w c pa pc ea ec q (N : Int) (d : Int) (r : Int) p ao ao' (BJ ++ headB c.m (c.P.getD j 0) (c.E.getD j 0) ++ numsB (c.P.getD j 0) (c.E.getD j 0) (partN l b o r j)) w')) := fun wx aj xo hE hX => HKW.out j aj _ wx q (N : Int) (d : Int) (r : Int) xo hlt (h01j.append h01h) (by rw [List.length_append]; omega) hE hX
      have HSC : Hid (∀ wx aj BJ, Hid (ES w c pa pc ea ec q (N : Int) (d : Int) (r : Int) p ao aj BJ wx) → wx.cell? ⟨w.heap.size, 0, none⟩ = some (.int .i64 c.m) ∧ wx.cell? ⟨w.heap.size, 1, none⟩ = some (.int .i64 c.o) ∧ wx.cell? ⟨w.heap.size, 2, none⟩ = some (.slice pa c.P.length pc) ∧ wx.cell? ⟨w.heap.size, 3, none⟩ = some (.slice ea c.E.length ec) ∧ wx.cell? ⟨q, 0, none⟩ = some (.int .i64 (N : Int)) ∧ wx.cell? ⟨q, 1, none⟩ = some (.int .i64 (d : Int)) ∧ wx.cell? ⟨q, 2, none⟩ = some (.int .i64 (r : Int))) := fun wx aj BJ h => h.out.cells
      clear HKH HKQ HKW HPS HLB H01
      generalize partN l b o r j = X at *
      generalize headB c.m (c.P.getD j 0) (c.E.getD j 0) = HH at *
      generalize numsB (c.P.getD j 0) (c.E.getD j 0) X = NN at *
      obtain ⟨x0, x1, x2, x3, y0, y1, y2⟩ := HE.out.cells
      go_wp2_with fail
      refine kh.mono ?_
      rintro e w3 ⟨rfl, aj3, he3⟩
      clear x0 x1 x2 x3 y0 y1 y2 kh HE
      have HD3 : Hid (ES w c pa pc ea ec q (N : Int) (d : Int) (r : Int) p ao aj3 (BJ ++ HH) w3.drew) := he3.out.low ⟨rfl, rfl, rfl, Nat.le_refl _, fun _ _ => rfl⟩
      clear he3
      go_wp2_with fail
      go_region_held3 (fun wx => wx.cell? ⟨w.heap.size, 0, none⟩ = some (.int .i64 c.m) ∧ wx.cell? ⟨w.heap.size, 1, none⟩ = some (.int .i64 c.o) ∧ wx.cell? ⟨w.heap.size, 2, none⟩ = some (.slice pa c.P.length pc) ∧ wx.cell? ⟨w.heap.size, 3, none⟩ = some (.slice ea c.E.length ec) ∧ wx.cell? ⟨q, 0, none⟩ = some (.int .i64 (N : Int)) ∧ wx.cell? ⟨q, 1, none⟩ = some (.int .i64 (d : Int)) ∧ wx.cell? ⟨q, 2, none⟩ = some (.int .i64 (r : Int))) (exact HSC.out _ _ _ (by assumption))
        (first
          | (go_at_call 35; refine (KQ.out _ _ _ (by assumption)).mono ?_; rintro e w4 ⟨xo, rfl, h4, hx4⟩)
          | (go_at_call 34; refine (KW.out _ _ _ (by assumption) (by assumption)).mono ?_; rintro e w5 ⟨rfl, aj5, h5⟩))
      go_wp2_with fail
      go_roundw
      case rel => exact ⟨j + 1, aj5, by omega, by go_num, by rw [HS1.out]; exact h5.out⟩
      case measure => simp [intOf]; omega
    · have HJN : Hid (j = N) := by show _ = _; omega
      go_wp2_with fail
      go_ret
      refine ⟨rfl, aj, ?_, HE.out.wb.st, HE.out.wb.mv⟩
      have hh := HE.out.wb.wr
      rw [HJN.out] at hh
      rw [HEB.out]
      simpa only [List.append_assoc] using hh

end Go.Proofs.Ytdlakbgcflekkaa
