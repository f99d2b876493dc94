/- Own text. -/
import Derived.Test.YtfpfabmbipmipaaGreatDoorD7
set_option linter.unusedSimpArgs false
set_option linter.unusedVariables false
set_option maxRecDepth 20000
set_option maxHeartbeats 12800000
namespace Go.Proofs.YtfpfabmbipmipaaGreatDoor
open Go.RowKit
theorem qfolded_spec (n : Int) (h1 : -9223372036854775808 <= n) (h2 : n <= 9223372036854775807) (w : World) :
  Calls Tryz.prog 229 #[.int .i64 n] w fun e w' => e = .returned (.int .u64 (foldN n : Int)) /\ w' = w := by
 by_cases h0 : 0 <= n
 ·go_enter Tryz.func229, Tryz.ntmps229
  go_wp2
  go_ret;refine ⟨ret_int ?_, rfl⟩;rw [foldN_pos n h0, show n / 9223372036854775808 = ((0 : Nat) : Int) from by omega, show n * 2 = (((2 * n).toNat : Nat) : Int) from by omega, u64_xor_nat _ _ (by omega) (by omega), Nat.xor_zero]
  omega
 ·go_enter Tryz.func229, Tryz.ntmps229
  go_wp2
  go_ret;refine ⟨ret_int ?_, rfl⟩
  have e1 : IntKind.u64.wrap (IntKind.u64.wrap n * 2) = (((18446744073709551616 + 2 * n).toNat : Nat) : Int) := by
   rw [IntKind.wrap_u64, IntKind.wrap_u64]; omega
  have e2 : IntKind.u64.wrap (n / 9223372036854775808) = ((18446744073709551615 : Nat) : Int) := by
   rw [IntKind.wrap_u64]; omega
  rw [foldN_neg n (by omega), e1, e2, u64_xor_nat _ _ (by omega) (by omega), xor_ones _ (by omega)]
  omega
theorem IntsAt.at {w : World} {ao : OA} {l : List Int} (h : IntsAt w ao l) (k : Nat) (hk : k < l.length) :
  ∃ b off, ao = some ⟨b, off, none⟩ /\ (∀ w', Lo w w' -> w'.cell? ⟨b, off + k, none⟩ = some (.int .i64 (l.getD k 0))) := by
 obtain ⟨b, off, e, hc⟩ := h.lies (by omega)
 refine ⟨b, off, e, fun w' hb => ?_⟩
 have h1 := hc k hk
 rw [World.cell?_of_block (w := w) (hb.block b (lt_cell h1))]
 exact h1
theorem getD_mem (l : List Int) (k : Nat) (h : k < l.length) : l.getD k 0 ∈ l := by
 rw [List.getD_eq_getElem?_getD, List.getElem?_eq_getElem h]; exact List.getElem_mem h
theorem take_snoc (l : List Int) (k : Nat) (h : k < l.length) : l.take (k + 1) = l.take k ++ [l.getD k 0] := by
 rw [List.take_add_one, List.getElem?_eq_getElem h, List.getD_eq_getElem?_getD, List.getElem?_eq_getElem h]; rfl
def ShX (l : List Int) : Prop := True /\ l.length <= 65535
def oneC (k : Nat) (x : Int) : Nat := foldN x / 2 ^ k + 1 + k
def costN (l : List Int) (k : Nat) : Nat := (l.map (oneC k)).sum
theorem costN_append (l m : List Int) (k : Nat) : costN (l ++ m) k = costN l k + costN m k := by unfold costN; rw [List.map_append, List.sum_append]
theorem costN_snoc (l : List Int) (x : Int) (k : Nat) : costN (l ++ [x]) k = costN l k + oneC k x := by rw [costN_append]; simp [costN]
theorem costN_le (l : List Int) (k : Nat) (hk : k <= 30) (h : ∀ x ∈ l, foldN x / 2 ^ k <= 16777216) : costN l k <= 16777247 * l.length := by
 induction l with
 | nil => simp [costN]
 | cons x t ih =>
  have h1 := ih (fun y hy => h y (List.mem_cons_of_mem _ hy));have h2 := h x (List.mem_cons_self ..);have : costN (x :: t) k = oneC k x + costN t k := by simp [costN]
  rw [this, List.length_cons]; unfold oneC; omega
theorem ShX.take {l : List Int} (h : ShX l) (n : Nat) : ShX (l.take n) := ⟨trivial, by have := h.2; rw [List.length_take]; omega⟩
theorem ShX.drop {l : List Int} (h : ShX l) (n : Nat) : ShX (l.drop n) := ⟨trivial, by have := h.2; rw [List.length_drop]; omega⟩
theorem ShX.part {l : List Int} (h : ShX l) (b o r i : Nat) : ShX (partN l b o r i) := (h.drop _).take _
def codB (l : List Int) (k : Nat) : Bool := l.all fun x => decide (foldN x / 2 ^ k <= 16777216)
theorem codB_iff (l : List Int) (k : Nat) : codB l k = true ↔ ∀ x ∈ l, foldN x / 2 ^ k <= 16777216 := by unfold codB; simp
def costI (l : List Int) (k : Int) : Int := if k < 0 ∨ 30 < k then -1 else if codB l k.toNat = true then (costN l k.toNat : Int) else -1
theorem cost_spec (l : List Int) (k : Int) (ao : OA) (cap : Nat) (hs : ShX l) (w : World) (hl : IntsAt w ao l) :
  Calls Tryz.prog 211 #[.slice ao l.length cap, .int .i64 k] w fun e w' => e = .returned (.int .i64 (costI l k)) /\ ∃ n, w' = w.drewN n := by
 by_cases h0 : k < 0
 ·have HC : Hid (costI l k = -1) := by show _ = _; unfold costI; rw [if_pos (Or.inl h0)]
  clear hs hl;go_enter Tryz.func211, Tryz.ntmps211
  go_wp2_with fail
  go_ret;exact ⟨by rw [HC.out]; rfl, 0, rfl⟩
 by_cases h1 : 30 < k
 ·have HC : Hid (costI l k = -1) := by show _ = _; unfold costI; rw [if_pos (Or.inr h1)]
  clear hs hl;go_enter Tryz.func211, Tryz.ntmps211
  go_wp2_with fail
  go_ret;exact ⟨by rw [HC.out]; rfl, 0, rfl⟩
 obtain ⟨k, rfl⟩ : ∃ k' : Nat, k = k' := ⟨k.toNat, by omega⟩
 have HC : Hid (codB l k = true -> costI l (k : Int) = (costN l k : Int)) := fun hc => by unfold costI; rw [if_neg (by omega), Int.toNat_natCast, if_pos hc]
 have HCN : Hid (codB l k = false -> costI l (k : Int) = -1) := fun hc => by unfold costI; rw [if_neg (by omega), Int.toNat_natCast, if_neg (by rw [hc]; decide)]
 have HL := kQ hl
 have h2 := hl.len
 have h5 := hs.2
 clear hl hs
 go_enter Tryz.func211, Tryz.ntmps211
 go_wp2_with fail
 go_loopw [5, 7, 8, 17] (fun s5 s7 s8 s17 wr => ∃ j n : Nat, j <= l.length /\ s17 = .int .i64 (j : Int) /\ s5 = .int .i64 ((costN (l.take j) k : Nat) : Int) /\ (∀ x ∈ l.take j, foldN x / 2 ^ k <= 16777216) /\ wr = w.drewN n) (fun _ _ _ s17 _ => l.length - (intOf s17).toNat)
 case atStart => exact ⟨0, 0, Nat.zero_le _, rfl, rfl, fun x hx => absurd hx (by simp), rfl⟩
 case round =>
  obtain ⟨j, n, hj, rfl, rfl, hal, rfl⟩ := hrel;have HAL := kQ hal;have hc0 := costN_le (l.take j) k (by omega) hal
  have hc : costN (l.take j) k <= 1099600000000 := by rw [List.length_take] at hc0; omega
  clear hal hc0;by_cases hlt : j < l.length
  ·obtain ⟨b1, o1, rfl, q1⟩ := HL.out.at j hlt
   have r1 := q1 (w.drewN n) (below_drewN _ _);have hx := HL.out.rng j;have HN : Hid (costN (l.take (j + 1)) k = costN (l.take j) k + oneC k (l.getD j 0)) := by show _ = _; rw [take_snoc l j hlt, costN_snoc]
   have HT : Hid (l.take (j + 1) = l.take j ++ [l.getD j 0]) := take_snoc l j hlt;have HM : Hid (l.getD j 0 ∈ l) := getD_mem l j hlt;clear q1;generalize l.getD j 0 = x at *;have kf := qfolded_spec x (by omega) (by omega) (w.drewN n)
   have kfl := foldN_lt x (by omega) (by omega)
   have hdc := div_cast (foldN x) k;have hqf : foldN x / 2 ^ k <= foldN x := Nat.div_le_self _ _;have HQ : Hid (oneC k x = foldN x / 2 ^ k + 1 + k) := rfl;by_cases hbig : foldN x / 2 ^ k <= 16777216
   ·have HAL2 : Hid (∀ y ∈ l.take (j + 1), foldN y / 2 ^ k <= 16777216) := fun y hy => by
     rw [HT.out] at hy
     rcases List.mem_append.1 hy with hy | hy
     ·exact HAL.out y hy
     ·rw [List.mem_singleton] at hy; rw [hy]; exact hbig
    generalize foldN x / 2 ^ k = q at *;generalize costN (l.take j) k = s at *;generalize foldN x = fx at *
    go_wp2_with fail
    refine kf.mono ?_;rintro e w4 ⟨rfl, rfl⟩
    go_wp2_with fail
    go_roundw
    case rel => exact ⟨j + 1, n, by omega, by go_num, by rw [HN.out, HQ.out]; go_num, HAL2.out, rfl⟩
    case measure => simp [intOf]; omega
   ·have HNO : Hid (costI l (k : Int) = -1) := HCN.out (by
     cases h : codB l k with
     | false => rfl
     | true => exact absurd ((codB_iff l k).1 h x HM.out) hbig)
    generalize foldN x / 2 ^ k = q at *;generalize costN (l.take j) k = s at *;generalize foldN x = fx at *;have hb2 : 16777216 < (q : Int) := by omega
    go_wp2_with fail
    refine kf.mono ?_;rintro e w4 ⟨rfl, rfl⟩
    go_wp2_with fail
    go_ret;exact ⟨by rw [HNO.out]; rfl, n, rfl⟩
  ·have HE : Hid (l.take j = l) := List.take_of_length_le (by omega)
   have HY : Hid (costI l (k : Int) = (costN l k : Int)) := HC.out ((codB_iff l k).2 (by have := HAL.out; rwa [HE.out] at this))
   go_wp2_with fail
   go_ret;exact ⟨by rw [HY.out, HE.out]; rfl, n, rfl⟩
theorem fit_sig (n : Int) (e : Nat) (h0 : ¬ e = 0) (he : e <= 31) : fitE 0 e n ↔ (-2 ^ (e - 1) <= n /\ n < 2 ^ (e - 1)) := by
 unfold fitE sigE
 rw [if_neg (by omega), if_neg (by omega)]
 have e1 : ((e : Int)).toNat = e := by omega
 rw [e1]
 constructor
 ·intro h
  split at h
  ·rename_i h1; exact h1.2.2
  ·cases h
 ·intro h
  rw [if_pos ⟨by omega, by omega, h⟩]
theorem isWithin_spec (n : Int) (e : Nat) (he : e <= 31) (w : World) :
  Calls Tryz.prog 230 #[.int .i64 n, .int .i64 (e : Int)] w fun en w' => en = .returned (.bool (fitT 0 e n)) /\ w' = w := by
 by_cases h0 : e = 0
 focus
  subst h0;by_cases h : n = 0
  focus
   have hd : fitT 0 (0 : Nat) n = true := by unfold fitT; simp [h]
   have hb : (n == 0) = true := by rw [h]; rfl
   rw [hd];clear hd;clear h
  rotate_left
  focus
   have hd : fitT 0 (0 : Nat) n = false := by unfold fitT; simp [h]
   have hb : (n == 0) = false := by rw [beq_eq_false_iff_ne]; exact h
   rw [hd];clear hd;clear h
  rotate_left
 rotate_left 2
 focus
  have hd := sign_div n (e - 1);have hf := fit_sig n e h0 he;have hp : 0 < (2 : Int) ^ (e - 1) := Int.pow_pos (by decide)
  by_cases h : -2 ^ (e - 1) <= n /\ n < 2 ^ (e - 1)
  focus
   rw [fitT_yes (hf.2 h)];by_cases hn : 0 <= n
   focus
    have e0 : n / 2 ^ (e - 1) = 0 := hd.1.2 ⟨hn, h.2⟩;clear hd hf hp h
   rotate_left
   focus
    have e0 : n / 2 ^ (e - 1) = -1 := hd.2.2 ⟨h.1, by omega⟩
    clear hd hf hp h
   rotate_left
  rotate_left 2
  focus
   rw [fitT_no (fun hh => h (hf.1 hh))];have e0 : (n / 2 ^ (e - 1) == 0) = false := by rw [beq_eq_false_iff_ne, ne_eq, hd.1]; omega
   have e1 : (n / 2 ^ (e - 1) == -1) = false := by rw [beq_eq_false_iff_ne, ne_eq, hd.2]; omega
   clear hd hf hp h
  rotate_left
 rotate_left 3
 all_goals
  go_enter Tryz.func230, Tryz.ntmps230
  go_wp2
  go_ret;exact ⟨rfl, rfl⟩
theorem areWithin_spec (l : List Int) (e : Nat) (he : e <= 31) (ao : OA) (cap : Nat) (w : World) (hl : IntsAt w ao l) :
  Calls Tryz.prog 212 #[.slice ao l.length cap, .int .i64 (e : Int)] w fun en w' => en = .returned (.bool (allT 0 e l)) /\ ∃ n, w' = w.drewN n := by
 have HL := kQ hl
 have h2 := hl.len
 clear hl
 go_enter Tryz.func212, Tryz.ntmps212
 go_wp2_with fail
 go_loopw [6, 9] (fun s6 s9 wr => ∃ j n : Nat, j <= l.length /\ s9 = .int .i64 (j : Int) /\ (∀ x ∈ l.take j, fitE 0 e x) /\ wr = w.drewN n) (fun _ s9 _ => l.length - (intOf s9).toNat)
 case atStart => exact ⟨0, 0, Nat.zero_le _, rfl, fun x hx => absurd hx (by simp), rfl⟩
 case round =>
  obtain ⟨j, n, hj, rfl, hs, rfl⟩ := hrel;have HS := kQ hs;clear hs;by_cases hlt : j < l.length
  ·obtain ⟨b1, o1, rfl, q1⟩ := HL.out.at j hlt
   have r1 := q1 (w.drewN n) (below_drewN _ _);have HT : Hid (l.take (j + 1) = l.take j ++ [l.getD j 0]) := take_snoc l j hlt;have HM : Hid (l.getD j 0 ∈ l) := getD_mem l j hlt;clear q1;generalize l.getD j 0 = x at *;have kw := isWithin_spec x e he (w.drewN n);by_cases hx : fitE 0 e x
   ·have HX := kQ hx
    rw [fitT_yes hx] at kw;clear hx
    go_wp2_with fail
    refine kw.mono ?_;rintro en w4 ⟨rfl, rfl⟩
    go_wp2_with fail
    go_roundw
    case rel =>
     refine ⟨j + 1, n, by omega, by go_num, fun y hy => ?_, rfl⟩
     rw [HT.out] at hy
     rcases List.mem_append.1 hy with hy | hy
     ·exact HS.out y hy
     ·rw [List.mem_singleton] at hy; rw [hy]; exact HX.out
    case measure => simp [intOf]; omega
   ·have HD : Hid (allT 0 e l = false) := allT_no (fun hh => hx (hh x HM.out))
    rw [fitT_no hx] at kw;clear hx
    go_wp2_with fail
    refine kw.mono ?_;rintro en w4 ⟨rfl, rfl⟩
    go_wp2_with fail
    go_ret;exact ⟨by rw [HD.out]; rfl, n, rfl⟩
  ·have HE : Hid (allT 0 e l = true) := allT_yes (by have := HS.out; rwa [List.take_of_length_le (by omega)] at this)
   go_wp2_with fail
   go_ret;exact ⟨by rw [HE.out]; rfl, n, rfl⟩
def chkN (c : Rc) (b r : Int) : Int := if chkOk c b r then 0 else 60
theorem chk_no {c : Rc} {b r : Int} (h : ¬ chkOk c b r) : chkN c b r = 60 := by unfold chkN; rw [if_neg h]
theorem chk_yes {c : Rc} {b r : Int} (h : chkOk c b r) : chkN c b r = 0 := by unfold chkN; rw [if_pos h]
structure CB (w : World) (c : Rc) (pa : OA) (pc : Nat) (ea : OA) (ec : Nat) (q : Nat) (p s f : Int) (wx : World) : Prop where
 rb : RB w c pa pc ea ec wx
 box : wx.heap[q]? = some (.cells #[.int .i64 p, .int .i64 s, .int .i64 f] 219 (0, 0))
 lt : w.heap.size < q
section
variable {w wx w' : World} {c : Rc} {pa : OA} {pc : Nat} {ea : OA} {ec : Nat} {q : Nat} {p s f : Int}
theorem CB.new (h : RB w c pa pc ea ec wx) (p s f : Int) : CB w c pa pc ea ec wx.heap.size p s f (wx.alloc (.cells #[.int .i64 p, .int .i64 s, .int .i64 f] 219)) :=
 ⟨h.next aQ, heap_alloc_new _ _, lt_of_block h.box⟩
theorem CB.next (h : CB w c pa pc ea ec q p s f wx) (hb : Lo wx w') : CB w c pa pc ea ec q p s f w' :=
 ⟨h.rb.next hb, by rw [hb.block _ (lt_of_block h.box)]; exact h.box, h.lt⟩
theorem CB.drewN (h : CB w c pa pc ea ec q p s f wx) (n : Nat) : CB w c pa pc ea ec q p s f (wx.drewN n) := h.next (below_drewN _ _)
theorem CB.q0 (h : CB w c pa pc ea ec q p s f wx) : wx.cell? ⟨q, 0, none⟩ = some (.int .i64 p) := by rw [cell_of_row _ _ _ _ _ _ h.box]; rfl
theorem CB.q1 (h : CB w c pa pc ea ec q p s f wx) : wx.cell? ⟨q, 1, none⟩ = some (.int .i64 s) := by rw [cell_of_row _ _ _ _ _ _ h.box]; rfl
theorem CB.q2 (h : CB w c pa pc ea ec q p s f wx) : wx.cell? ⟨q, 2, none⟩ = some (.int .i64 f) := by rw [cell_of_row _ _ _ _ _ _ h.box]; rfl
end
theorem check_spec (c : Rc) (b r : Int) (pa : OA) (pc : Nat) (ea : OA) (ec : Nat) (w : World) (hr : RcAt w c pa ea) :
  Calls Tryz.prog 190 #[riceV c pa pc ea ec, .int .i64 b, .int .i64 r] w fun en w' => en = .returned (.int .i64 (chkN c b r)) /\ Lo w w' := by
 have HB0 : Hid (RB w c pa pc ea ec (w.alloc (.cells (riceC c pa pc ea ec) 65))) := RB.new w c pa pc ea ec
 have HR := kQ hr
 clear hr
 by_cases hcut : cutOk b r c.o
 case neg =>
  have HN : Hid (chkN c b r = 60) := chk_no (fun h => hcut h.2.1);have KC : Hid (∀ wx, Calls Tryz.prog 191 #[.int .i64 b, .int .i64 r, .int .i64 c.o] wx fun e w' => ∃ p s f, e = .returned (.tuple #[cutV p s f, .bool false]) /\ Lo wx w') := fun wx => cutOf_no b c.o r hcut wx;clear hcut;go_enter Tryz.func190, Tryz.ntmps190
  go_wp2_with fail
  generalize hwa : w.alloc _ = wa;have HA : Hid (RB w c pa pc ea ec wa) := by rw [<- hwa]; exact HB0.out
  clear hwa HB0;refine (KC.out wa).mono ?_;rintro en w2 ⟨p, s, f, rfl, hb2⟩;have HR2 := kQ (HA.out.next hb2);clear HA hb2;have HC2 : Hid (CB w c pa pc ea ec w2.heap.size p s f (w2.alloc (.cells #[.int .i64 p, .int .i64 s, .int .i64 f] 219))) := CB.new HR2.out _ _ _;clear HR2;have x0 := HC2.out.rb.c0;have x2 := HC2.out.rb.c2;have x3 := HC2.out.rb.c3;have y0 := HC2.out.q0;have HBL := kQ HC2.out.rb.below
  go_wp2_with fail
  go_ret;exact ⟨by rw [HN.out]; rfl, HBL.out⟩
 case pos =>
  obtain ⟨b, r, o, rfl, rfl, ho, hC⟩ := Cut.of hcut;have KC : Hid (∀ wx, G1 191 #[.int .i64 (b : Int), .int .i64 (r : Int), .int .i64 c.o] wx (.tuple #[cutV ((2 ^ o : Nat) : Int) ((b / 2 ^ o : Nat) : Int) (r : Int), .bool true])) := fun wx => by rw [ho]; exact cutOf_yes b o r hC wx
  have HCUT := kQ hcut;have HO : Hid (2 ^ c.o.toNat = 2 ^ o) := by show _ = _; rw [show c.o.toNat = o by omega]
  have hp := pow15 o hC.o15;clear hcut ho;generalize hpn : 2 ^ o = N at *;generalize b / N = d at *;clear hpn;have hn32 := hp.2;have hE := HR.out.E.len;have hP := HR.out.P.len;by_cases m0 : c.m < 0
  focus
   have hno : ¬ chkOk c b r := fun h => by have := h.1; omega
   have HN : Hid (chkN c b r = 60) := chk_no hno;clear hno
  rotate_left
  focus
   by_cases m1 : 1 < c.m
   focus
    have hno : ¬ chkOk c b r := fun h => by have := h.1; omega
    have HN : Hid (chkN c b r = 60) := chk_no hno;clear hno
   rotate_left
   focus
    by_cases l1 : c.P.length = N
    case neg =>
     have hno : ¬ chkOk c b r := fun h => l1 (by have := h.2.2.1; rwa [HO.out] at this)
     have hbn : ((c.P.length : Int) != (N : Int)) = true := nQt (by omega)
     have HN : Hid (chkN c b r = 60) := chk_no hno;clear hno;go_enter Tryz.func190, Tryz.ntmps190
     go_wp2_with fail
     generalize hwa : w.alloc _ = wa;have HA : Hid (RB w c pa pc ea ec wa) := by rw [<- hwa]; exact HB0.out
     clear hwa HB0;refine (KC.out wa).mono ?_;rintro en w2 ⟨rfl, hb2⟩;have HR2 := kQ (HA.out.next hb2);clear HA hb2;have HC2 : Hid (CB w c pa pc ea ec w2.heap.size (N : Int) (d : Int) (r : Int) (w2.alloc (.cells #[.int .i64 (N : Int), .int .i64 (d : Int), .int .i64 (r : Int)] 219))) := CB.new HR2.out _ _ _;clear HR2;have x0 := HC2.out.rb.c0;have x2 := HC2.out.rb.c2;have x3 := HC2.out.rb.c3;have y0 := HC2.out.q0;have HBL := kQ HC2.out.rb.below
     go_wp2_with fail
     go_ret;exact ⟨by rw [HN.out]; rfl, HBL.out⟩
    have hbp : ((c.P.length : Int) != (N : Int)) = false := nQf (by omega)
    by_cases l2 : c.E.length = N
    case neg =>
     have hno : ¬ chkOk c b r := fun h => l2 (by have := h.2.2.2.1; rwa [HO.out] at this)
     have hbn : ((c.E.length : Int) != (N : Int)) = true := nQt (by omega)
     have HN : Hid (chkN c b r = 60) := chk_no hno;clear hno;go_enter Tryz.func190, Tryz.ntmps190
     go_wp2_with fail
     generalize hwa : w.alloc _ = wa;have HA : Hid (RB w c pa pc ea ec wa) := by rw [<- hwa]; exact HB0.out
     clear hwa HB0;refine (KC.out wa).mono ?_;rintro en w2 ⟨rfl, hb2⟩;have HR2 := kQ (HA.out.next hb2);clear HA hb2;have HC2 : Hid (CB w c pa pc ea ec w2.heap.size (N : Int) (d : Int) (r : Int) (w2.alloc (.cells #[.int .i64 (N : Int), .int .i64 (d : Int), .int .i64 (r : Int)] 219))) := CB.new HR2.out _ _ _;clear HR2;have x0 := HC2.out.rb.c0;have x2 := HC2.out.rb.c2;have x3 := HC2.out.rb.c3;have y0 := HC2.out.q0;have HBL := kQ HC2.out.rb.below
     go_wp2_with fail
     go_ret;exact ⟨by rw [HN.out]; rfl, HBL.out⟩
    have hbe : ((c.E.length : Int) != (N : Int)) = false := nQf (by omega)
    have KM : Hid (∀ k e wx, G0 208 #[.int .i64 c.m, .int .i64 k, .int .i64 e] wx (.bool (decide (mayOk c.m k e)))) := fun k e wx => mayBe_spec c.m k e (by omega) (by omega) wx
    have HNB : Hid (∀ j, j < N -> ¬ mayOk c.m (c.P.getD j 0) (c.E.getD j 0) -> chkN c b r = 60) := fun j hj h => chk_no (fun hh => h (hh.2.2.2.2 j (by rw [HO.out]; exact hj)))
    have HYS : Hid ((∀ j, j < N -> mayOk c.m (c.P.getD j 0) (c.E.getD j 0)) -> chkN c b r = 0) := fun h => chk_yes ⟨⟨by omega, by omega⟩, HCUT.out, by rw [HO.out]; exact l1, by rw [HO.out]; exact l2, fun j hj => h j (by rw [HO.out] at hj; exact hj)⟩
    have HL1 := kQ l1;have HL2 := kQ l2;clear l1 l2
   rotate_left
  rotate_left 2
  all_goals
   go_enter Tryz.func190, Tryz.ntmps190
   go_wp2_with fail
   generalize hwa : w.alloc _ = wa;have HA : Hid (RB w c pa pc ea ec wa) := by rw [<- hwa]; exact HB0.out
   clear hwa HB0;refine (KC.out wa).mono ?_;rintro en w2 ⟨rfl, hb2⟩;have HR2 := kQ (HA.out.next hb2);clear HA hb2;have HC2 : Hid (CB w c pa pc ea ec w2.heap.size (N : Int) (d : Int) (r : Int) (w2.alloc (.cells #[.int .i64 (N : Int), .int .i64 (d : Int), .int .i64 (r : Int)] 219))) := CB.new HR2.out _ _ _;clear HR2;have x0 := HC2.out.rb.c0;have x2 := HC2.out.rb.c2;have x3 := HC2.out.rb.c3;have y0 := HC2.out.q0;have HBL := kQ HC2.out.rb.below
   go_wp2_with fail
  ·go_ret
   exact ⟨by rw [HN.out]; rfl, HBL.out⟩
  ·go_ret
   exact ⟨by rw [HN.out]; rfl, HBL.out⟩
  ·clear x0 x2 x3 y0
   generalize hwc : w2.alloc _ = wc at *;generalize w2.heap.size = q at *;clear hwc HBL
   go_loopw [9, 46] (fun s9 s46 wr => ∃ j : Nat, j <= N /\ s46 = .int .i64 (j : Int) /\ (∀ i, i < j -> mayOk c.m (c.P.getD i 0) (c.E.getD i 0)) /\ CB w c pa pc ea ec q (N : Int) (d : Int) (r : Int) wr) (fun _ s46 _ => N - (intOf s46).toNat)
   case atStart => exact ⟨0, Nat.zero_le _, rfl, fun i hi => absurd hi (Nat.not_lt_zero _), HC2.out⟩
   case round =>
    obtain ⟨j, hj, rfl, hs, hcb⟩ := hrel;have HW := kQ hcb;clear hcb HC2;have HS := kQ hs;clear hs;by_cases hlt : j < N
    focus
     have hjP : j < c.P.length := by rw [HL1.out]; exact hlt
     have hjE : j < c.E.length := by rw [HL2.out]; exact hlt
     obtain ⟨b1, o1, e1, q1⟩ := HR.out.P.at j hjP;obtain ⟨b2, o2, e2, q2⟩ := HR.out.E.at j hjE;have r1 := q1 wr HW.out.rb.below;have r2 := q2 wr HW.out.rb.below;have x0 := HW.out.rb.c0;have x2 := HW.out.rb.c2;have x3 := HW.out.rb.c3;rw [e1] at x2;rw [e2] at x3;clear q1 q2 e1 e2;by_cases hx : mayOk c.m (c.P.getD j 0) (c.E.getD j 0)
     focus
      have HX : Hid (∀ i, i = j -> mayOk c.m (c.P.getD i 0) (c.E.getD i 0)) := fun i hi => by rw [hi]; exact hx
      have km := KM.out (c.P.getD j 0) (c.E.getD j 0);rw [decide_eq_true hx] at km
     rotate_left
     focus
      have HN := kQ (HNB.out j hlt hx);have km := KM.out (c.P.getD j 0) (c.E.getD j 0);rw [decide_eq_false hx] at km
     rotate_left
    rotate_left 2
    ·have HN : Hid (chkN c b r = 0) := HYS.out (fun i hi => HS.out i (by omega))
     go_wp2_with fail
     go_ret;exact ⟨by rw [HN.out]; rfl, HW.out.rb.below⟩
    all_goals
     clear hx;generalize c.P.getD j 0 = kk at *;generalize c.E.getD j 0 = ee at *
     go_wp2_with fail
     go_quiet ((go_at_call 208; exact Calls.quiet_of_same (km _)))
     go_wp2_with fail
    ·go_roundw
     case rel =>
      refine ⟨j + 1, by omega, by go_num, fun i hi => ?_, HW.out.drewN _⟩
      by_cases e : i = j
      ·exact HX.out i e
      ·exact HS.out i (by omega)
     case measure => simp [intOf]; omega
    ·go_ret
     exact ⟨by rw [HN.out]; rfl, (HW.out.drewN _).rb.below⟩
theorem partL_spec (l : List Int) (b o r i : Nat) (h : Cut b o r) (hi : i < 2 ^ o) (ao : OA) (cap : Nat) (hn : l.length = b - r) (hc : l.length <= cap) (h0 : ao = none -> cap = 0) (P : Int) (w : World) (hl : IntsAt w ao l) :
  Calls Tryz.prog 195 #[cutV P ((b / 2 ^ o : Nat) : Int) (r : Int), .slice ao l.length cap, .int .i64 (i : Int)] w fun e w' => ∃ xo, e = .returned (.slice xo (partN l b o r i).length (partN l b o r i).length) /\ Lo w w' /\ IntsAt w' xo (partN l b o r i) /\ (∀ bb, blockOf xo = some bb -> blockOf ao = some bb) /\ (∀ bb off, ao = some ⟨bb, off, none⟩ -> 0 < (partN l b o r i).length -> xo = some ⟨bb, off + frN b o r i, none⟩) := by
 have hlen := partN_length l h hn i hi
 refine (part_spec b o r i h hi ao l.length cap hn hc h0 P w).mono ?_
 rintro e w' ⟨xo, rfl, hb, h1, h2, h3⟩
 rw [hlen]
 refine ⟨xo, rfl, hb, ?_, h3, h2⟩
 refine (hl.below hb).part _ _ ?_ xo h2
 have := frN_bound h (i + 1) hi; have := frN_mono b o r i
 omega
theorem fit_coded (x : Int) (k : Int) (h0 : 0 <= k) (h1 : k <= 30) (h : foldN x / 2 ^ k.toNat <= 16777216) : fitE k (-1) x := by
 unfold fitE rcwE; rw [if_pos rfl, if_pos ⟨h0, h1, h⟩]
theorem coded_fit (x : Int) (k : Int) (h : fitE k (-1) x) : foldN x / 2 ^ k.toNat <= 16777216 := by
 unfold fitE rcwE at h
 rw [if_pos rfl] at h
 split at h
 ·rename_i hc; exact hc.2.2
 ·cases h
structure Rok (c : Rc) (b o r : Nat) : Prop where
 cut : Cut b o r
 ho : c.o = o
 m0 : 0 <= c.m
 m1 : c.m <= 1
 lP : c.P.length = 2 ^ o
 lE : c.E.length = 2 ^ o
 may : allMay c.m c.P c.E (2 ^ o)
theorem Rok.of {c : Rc} {b r : Int} (h : chkOk c b r) : ∃ b' r' o' : Nat, b = b' /\ r = r' /\ Rok c b' o' r' := by
 obtain ⟨b', r', o', e1, e2, e3, hc⟩ := Cut.of h.2.1
 have e4 : c.o.toNat = o' := by omega
 have h3 := h.2.2
 rw [e4] at h3
 exact ⟨b', r', o', e1, e2, hc, e3, h.1.1, h.1.2, h3.1, h3.2.1, h3.2.2⟩
theorem Rok.chk {c : Rc} {b o r : Nat} (h : Rok c b o r) : chkOk c b r := by
 have e4 : c.o.toNat = o := by have := h.ho; omega
 refine ⟨⟨h.m0, h.m1⟩, by rw [h.ho]; exact h.cut.ok, ?_⟩
 rw [e4]
 exact ⟨h.lP, h.lE, h.may⟩
theorem Rok.row {c : Rc} {b o r : Nat} (h : Rok c b o r) (j : Nat) (hj : j < 2 ^ o) : (c.E.getD j 0 = -1 /\ 0 <= c.P.getD j 0 /\ c.P.getD j 0 <= 30) ∨ (0 <= c.E.getD j 0 /\ c.E.getD j 0 <= 31 /\ c.P.getD j 0 = 0) := by
 have := h.may j hj; have := h.m1
 unfold mayOk at this
 rcases h.may j hj with h1 | h1
 ·left; exact ⟨h1.1, h1.2.1, by omega⟩
 ·right; exact h1
def fitB (c : Rc) (b o r : Nat) (l : List Int) : Bool := decide (l.length = b - r) && (List.range (2 ^ o)).all (fun i => allT (c.P.getD i 0) (c.E.getD i 0) (partN l b o r i))
theorem fitB_iff (c : Rc) (b o r : Nat) (l : List Int) : fitB c b o r l = true ↔ l.length = b - r /\ allFit c b o r l (2 ^ o) := by
 unfold fitB allFit
 rw [Bool.and_eq_true_iff, List.all_eq_true, decide_eq_true_iff]
 exact ⟨fun h => ⟨h.1, fun i hi => (allT_iff _ _ _).1 (h.2 i (List.mem_range.2 hi))⟩, fun h => ⟨h.1, fun i hi => (allT_iff _ _ _).2 (h.2 i (List.mem_range.1 hi))⟩⟩
theorem fitB_yes {c : Rc} {b o r : Nat} {l : List Int} (h : l.length = b - r /\ allFit c b o r l (2 ^ o)) : fitB c b o r l = true := (fitB_iff c b o r l).2 h
theorem fitB_no {c : Rc} {b o r : Nat} {l : List Int} (h : ¬ (l.length = b - r /\ allFit c b o r l (2 ^ o))) : fitB c b o r l = false := bool_no (fitB_iff c b o r l) h
theorem fit_spec (c : Rc) (b o r : Nat) (l : List Int) (h : Rok c b o r) (hs : ShX l) (pa : OA) (pc : Nat) (ea : OA) (ec : Nat) (ao : OA) (cap : Nat) (hc : l.length <= cap) (h0 : ao = none -> cap = 0) (w : World) (hr : RcAt w c pa ea) (hl : IntsAt w ao l) :
  Calls Tryz.prog 192 #[riceV c pa pc ea ec, cutV ((2 ^ o : Nat) : Int) ((b / 2 ^ o : Nat) : Int) (r : Int), .slice ao l.length cap] w fun en w' => en = .returned (.bool (fitB c b o r l)) /\ Lo w w' := by
 have HR := kQ hr
 have HL := kQ hl
 have HS := kQ hs
 have HK := kQ h
 have hp := pow15 o h.cut.o15
 have hdv := h.cut.dv
 have hr2 := h.cut.r2
 have hb2 := h.cut.b2
 have hrb := h.cut.rb
 have hd : b / 2 ^ o <= 65535 := by have := Nat.div_le_self b (2 ^ o); omega
 have hl5 := hs.2
 have KN : Hid (∀ wx, G1 210 #[cutV ((2 ^ o : Nat) : Int) ((b / 2 ^ o : Nat) : Int) (r : Int)] wx (.int .i64 ((b - r : Nat) : Int))) := fun wx => by
  have hh := count_spec (2 ^ o) (b / 2 ^ o) r (by omega) hr2 hp.2 hd wx
  rw [hdv] at hh;refine hh.mono ?_;rintro e w' ⟨rfl, hb⟩;refine ⟨?_, hb⟩;rw [show ((b - r : Nat) : Int) = (b : Int) - (r : Int) by omega]
 have KP : Hid (∀ i : Nat, i < 2 ^ o -> l.length = b - r -> ∀ wx, Lo w wx -> Calls Tryz.prog 195 #[cutV ((2 ^ o : Nat) : Int) ((b / 2 ^ o : Nat) : Int) (r : Int), .slice ao l.length cap, .int .i64 (i : Int)] wx fun e w' => ∃ xo, e = .returned (.slice xo (partN l b o r i).length (partN l b o r i).length) /\ Lo wx w' /\ IntsAt w' xo (partN l b o r i)) := fun i hi hn wx hbx =>
  (partL_spec l b o r i h.cut hi ao cap hn hc h0 _ wx (hl.below hbx)).mono fun e w' hh => by
   obtain ⟨xo, h1, h2, h3, _⟩ := hh;exact ⟨xo, h1, h2, h3⟩
 have HSt : Hid (∀ p s f, CB w c pa pc ea ec (w.heap.size + 1) p s f ((w.alloc (.cells (riceC c pa pc ea ec) 65)).alloc (.cells #[.int .i64 p, .int .i64 s, .int .i64 f] 219))) := fun p s f => by
  have hh := CB.new (RB.new w c pa pc ea ec) p s f
  simpa using hh
 have HF : Hid (∀ i, i < 2 ^ o -> (∃ x ∈ partN l b o r i, ¬ fitE (c.P.getD i 0) (c.E.getD i 0) x) -> fitB c b o r l = false) := fun i hi hx => by
  obtain ⟨x, hx, hf⟩ := hx;exact fitB_no (fun hh => hf (hh.2 i hi x hx))
 have HT : Hid (l.length = b - r -> (∀ i, i < 2 ^ o -> ∀ x ∈ partN l b o r i, fitE (c.P.getD i 0) (c.E.getD i 0) x) -> fitB c b o r l = true) := fun h1 h2 => fitB_yes ⟨h1, h2⟩
 have HF0 : Hid (¬ l.length = b - r -> fitB c b o r l = false) := fun h1 => fitB_no (fun hh => h1 hh.1)
 have hPl : c.P.length = 2 ^ o := h.lP
 have hEl : c.E.length = 2 ^ o := h.lE
 generalize hpn : 2 ^ o = N at *
 generalize b / N = d at *
 have HL1 := kQ hPl
 have HL2 := kQ hEl
 have hn32 := hp.2
 have HPN := kQ hpn
 clear hPl hEl h hr hl hs hdv hpn
 by_cases hlen : l.length = b - r
 case neg =>
  have hbn : ((l.length : Int) != ((b - r : Nat) : Int)) = true := nQt (by omega)
  have HN := kQ (HF0.out hlen);generalize hbr : b - r = br at *;go_enter Tryz.func192, Tryz.ntmps192
  go_wp2_with fail
  refine (KN.out _).mono ?_;rintro e w2 ⟨rfl, hb⟩;have HW : Hid (CB w c pa pc ea ec (w.heap.size + 1) (N : Int) (d : Int) (r : Int) w2) := (HSt.out _ _ _).next hb;clear hb
  go_wp2_with fail
  go_ret;exact ⟨by rw [HN.out]; rfl, HW.out.rb.below⟩
 case pos =>
  have hbn : ((l.length : Int) != ((b - r : Nat) : Int)) = false := nQf (by omega)
  have HLN := kQ hlen;clear hlen;generalize hbr : b - r = br at *;go_enter Tryz.func192, Tryz.ntmps192
  go_wp2_with fail
  refine (KN.out _).mono ?_;rintro e w2 ⟨rfl, hb⟩;have HW : Hid (CB w c pa pc ea ec (w.heap.size + 1) (N : Int) (d : Int) (r : Int) w2) := (HSt.out _ _ _).next hb;have y0 := HW.out.q0;clear hb
  go_wp2_with fail
  clear y0
  go_loopw [7, 8, 16] (fun s7 s8 s16 wr => ∃ j : Nat, j <= N /\ s16 = .int .i64 (j : Int) /\ (∀ i, i < j -> ∀ x ∈ partN l b o r i, fitE (c.P.getD i 0) (c.E.getD i 0) x) /\ CB w c pa pc ea ec (w.heap.size + 1) (N : Int) (d : Int) (r : Int) wr) (fun _ _ s16 _ => N - (intOf s16).toNat)
  case atStart => exact ⟨0, Nat.zero_le _, rfl, fun i hi => absurd hi (Nat.not_lt_zero _), HW.out⟩
  case round =>
   clear HW;obtain ⟨j, hj, rfl, hsj, hcb⟩ := hrel;have HW := kQ hcb;have HSJ := kQ hsj;clear hcb hsj;by_cases hlt : j < N
   focus
    have hjP : j < c.P.length := by rw [HL1.out]; exact hlt
    have hjE : j < c.E.length := by rw [HL2.out]; exact hlt
    have z0 := HW.out.q0;have z1 := HW.out.q1;have z2 := HW.out.q2;have kp := KP.out j hlt (by rw [HLN.out]) wr HW.out.rb.below
    have hrow := HK.out.row j (by rw [HPN.out]; exact hlt)
    obtain ⟨b1, o1, e1, q1⟩ := HR.out.P.at j hjP;obtain ⟨b2, o2, e2, q2⟩ := HR.out.E.at j hjE;have HSP := kQ (HS.out.part b o r j);have HFJ := kQ (HF.out j hlt)
    have HGO : Hid ((∀ x ∈ partN l b o r j, fitE (c.P.getD j 0) (c.E.getD j 0) x) -> ∀ i, i < j + 1 -> ∀ x ∈ partN l b o r i, fitE (c.P.getD i 0) (c.E.getD i 0) x) := fun hx i hi => by
     by_cases e : i = j
     ·rw [e]; exact hx
     ·exact HSJ.out i (by omega)
    have HQ1 := kQ q1;have HQ2 := kQ q2;have HE1 := kQ e1;have HE2 := kQ e2;clear q1 q2 e1 e2;generalize partN l b o r j = X at *;generalize c.P.getD j 0 = kk at *;generalize c.E.getD j 0 = ee at *
    go_wp2_with fail
    refine kp.mono ?_;rintro e w3 ⟨xo, rfl, hb3, hX⟩;have HW3 := kQ (HW.out.next hb3);have HX := kQ hX;have x2 := HW3.out.rb.c2;have x3 := HW3.out.rb.c3;rw [HE1.out] at x2;rw [HE2.out] at x3;have r1 := HQ1.out w3 HW3.out.rb.below;have r2 := HQ2.out w3 HW3.out.rb.below;clear hb3 hX HW z0 z1 z2 HQ1 HQ2 kp
    rcases hrow with ⟨rfl, k0, k1⟩ | ⟨a0, a1, rfl⟩
    ·have kc := cost_spec X kk xo X.length HSP.out w3 HX.out
     cases hcd : codB X kk.toNat with
     | true =>
      have HCD : Hid (∀ x ∈ X, fitE kk (-1) x) := fun x hx => fit_coded x kk k0 k1 ((codB_iff X kk.toNat).1 hcd x hx);have hcv : ∃ q : Nat, costI X kk = (q : Int) := ⟨costN X kk.toNat, by unfold costI; rw [if_neg (by omega), if_pos hcd]⟩
      obtain ⟨q, hq⟩ := hcv;rw [hq] at kc;clear hq hcd
      go_wp2_with fail
      refine kc.mono ?_;rintro e w4 ⟨rfl, n4, rfl⟩;have HW4 := kQ (HW3.out.drewN n4)
      go_wp2_with fail
      go_roundw
      case rel => exact ⟨j + 1, by omega, by go_num, HGO.out HCD.out, HW4.out⟩
      case measure => simp [intOf]; omega
     | false =>
      have HN : Hid (fitB c b o r l = false) := HFJ.out (by
       apply Classical.byContradiction;intro hno;have hall : codB X kk.toNat = true := (codB_iff X kk.toNat).2 (fun x hx => Classical.byContradiction (fun hf => hno ⟨x, hx, fun hfe => hf (coded_fit x kk hfe)⟩))
       rw [hcd] at hall; cases hall)
      have hq : costI X kk = -1 := by unfold costI; rw [if_neg (by omega), if_neg (by rw [hcd]; decide)]
      rw [hq] at kc;clear hq hcd
      go_wp2_with fail
      refine kc.mono ?_;rintro e w4 ⟨rfl, n4, rfl⟩;have HW4 := kQ (HW3.out.drewN n4)
      go_wp2_with fail
      go_ret;exact ⟨by rw [HN.out]; rfl, HW4.out.rb.below⟩
    focus
     obtain ⟨en, rfl⟩ : ∃ en : Nat, ee = en := ⟨ee.toNat, by omega⟩
     have kw := areWithin_spec X en (by omega) xo X.length w3 HX.out
     have hbe : ((en : Int) == -1) = false := eQf (by omega)
     have hbe2 : ((en : Int) != -1) = true := nQt (by omega)
     by_cases hx : ∀ x ∈ X, fitE 0 en x
     focus
      have HXX := kQ hx;rw [allT_yes hx] at kw
     rotate_left
     focus
      have HN : Hid (fitB c b o r l = false) := HFJ.out (by
       apply Classical.byContradiction;intro hno
       exact hx (fun x hx => Classical.byContradiction (fun hf => hno ⟨x, hx, hf⟩)))
      rw [allT_no hx] at kw
     rotate_left
    rotate_left 2
   rotate_left 2
   ·have HN : Hid (fitB c b o r l = true) := HT.out (by rw [HLN.out]) (fun i hi => HSJ.out i (by omega))
    go_wp2_with fail
    go_ret;exact ⟨by rw [HN.out]; rfl, HW.out.rb.below⟩
   all_goals
    clear hx
    go_wp2_with fail
    refine kw.mono ?_;rintro e w4 ⟨rfl, n4, rfl⟩;have HW4 := kQ (HW3.out.drewN n4)
    go_wp2_with fail
   ·go_roundw
    case rel => exact ⟨j + 1, by omega, by go_num, HGO.out HXX.out, HW4.out⟩
    case measure => simp [intOf]; omega
   ·go_ret
    exact ⟨by rw [HN.out]; rfl, HW4.out.rb.below⟩
end Go.Proofs.YtfpfabmbipmipaaGreatDoor
