/- Own text. -/
import Derived.WalkMore
import Derived.Test.YtfpfabmbipmipaaGreatDoorD41
set_option linter.unusedSimpArgs false
set_option linter.unusedVariables false
set_option maxRecDepth 20000
set_option maxHeartbeats 12800000
namespace Go.Proofs.YtfpfabmbipmipaaGreatDoor
open Go.RowKit
theorem rs_dec_okC (a b c d : Int) (i : Inf) (e : Int) (sc : ByteArray) (hw : 4 <= i.wd /\ i.wd <= 24) (hch : 1 <= i.ch /\ i.ch <= 8) (x q : Nat) (s : ByteArray) (hs : s.size <= 140737488351232) (f : Fm) (hsz : 1 <= f.size /\ f.size <= 4608) (w : World) (L : List (List Int)) (S : List Sb) (lo : OA) (lk : Nat) (so : OA) (sk : Nat) (cX cY : List Value) (an n : Nat) (han : an <= 8 * s.size) (hD : DecC s an f.size (wdA i f.mo n)) (l : List Int) (z : Sb) (a2 : Nat) (hdec : decS s an f.size (wdA i f.mo n) = some (l, z, a2)) (wx : World) (hx : RS w x q s f a b c d i e sc L S (.slice lo L.length lk) (.slice so S.length sk) (.slice so S.length sk) cX cY an wx) :
  Calls Tryz.prog 102 #[.pointer (some ⟨x, 0, none⟩), .int .i64 f.size, .int .i64 (wdA i f.mo n)] wx fun en w' => ∃ la lc ca cc pa pc ea ec, en = .returned (.tuple #[.slice la l.length lc, subV z ca cc pa pc ea ec, .int .i64 0]) /\ (RS w x q s f a b c d i e sc L S (.slice lo L.length lk) (.slice so S.length sk) (.slice so S.length sk) cX cY a2 w' /\ DN w (.slice lo L.length lk) (.slice so S.length sk) l la lc z ca cc pa ea w') /\ (∀ k, k < wx.heap.size -> k ≠ x -> w'.heap[k]? = wx.heap[k]?) /\ (Fr wx.heap.size la /\ Fr wx.heap.size ca /\ Fr wx.heap.size pa /\ Fr wx.heap.size ea) /\ wx.heap.size <= w'.heap.size := by
 have hvr := wdA_rng i f.mo n hw
 refine (hD.ok x l z a2 wx han hx.rd hdec).mono fun en w' qq => ?_
 obtain ⟨la, lc, ca, cc, pa, pc, ea, ec, q1, q2, q3, q4, q5, ⟨f1, f2, f3, f4⟩, q7, q8⟩ := qq
 have hib := lt_of_block hx.ib
 have off : ∀ {ao : OA} {l : List Int}, Fr wx.heap.size ao -> Off w (.slice lo L.length lk) (.slice so S.length sk) ao l := fun {ao l} hf h0 b hb => by
  have h1 := hf b hb;exact ⟨by omega, fun e => by have := (hx.oX.lt b e).2; omega, fun e => by have := (hx.oY.lt b e).2; omega⟩
 exact ⟨la, lc, ca, cc, pa, pc, ea, ec, q1, ⟨hx.only q7 q8, q2, q3, off f1, q4, q5, off f2, off f3, off f4⟩, fun k hk hne => q8.block k hk hne, ⟨f1, f2, f3, f4⟩, q8.size⟩
theorem rs_yes (a b c d : Int) (i : Inf) (e : Int) (sc : ByteArray) (hw : 4 <= i.wd /\ i.wd <= 24) (hch : 1 <= i.ch /\ i.ch <= 8) (x q : Nat) (s : ByteArray) (hs : s.size <= 140737488351232) (f : Fm) (hsz : 1 <= f.size /\ f.size <= 4608) (w : World) (at0 : Nat) (hat0 : at0 <= 8 * s.size) (hr : Rd w x s at0) (hq : w.heap[q]? = some (.cells (fmW f (.slice none 0 0)) 24 (0, 0))) (hxq : x ≠ q) (R : Option (List (List Int) × List Sb × Nat)) (hR : subsP s at0 i f.mo f.size i.ch.toNat = R) (HDD : Hid (∀ n an L S, n < i.ch.toNat -> subsP s at0 i f.mo f.size n = some (L, S, an) -> DecC s an f.size (wdA i f.mo n) /\ decS s an f.size (wdA i f.mo n) ≠ none /\ ∀ l z a2, decS s an f.size (wdA i f.mo n) = some (l, z, a2) -> a2 <= 8 * s.size)) :
  Calls Tryz.prog 45 #[.pointer (some ⟨x, 0, none⟩), .pointer (some ⟨q, 0, none⟩), infV a b c d i e sc] w fun en w' => (∃ v er, en = .returned (.tuple #[v, .int .i64 er]) /\ Stays (two x q) w w' /\ ((R = none /\ er = 2) ∨ ∃ L S a1 vL vS cX cY, R = some (L, S, a1) /\ er = 0 /\ v = vL /\ L.length = i.ch.toNat /\ S.length = i.ch.toNat /\ a1 <= 8 * s.size /\ RS w x q s f a b c d i e sc L S vL vS vS cX cY a1 w')) := by
 have hxl := hr.lt
 have hql := lt_of_block hq
 obtain ⟨iX, hXa, hXb, hXc, hXd⟩ := rows_info
 obtain ⟨iY, hYa, hYb, hYc, hYd⟩ := subs_info
 have H0 : Hid (RS w x q s f a b c d i e sc [] [] (.slice none 0 0) (.slice none 0 0) (.slice none 0 0) [] [] at0 (w.alloc (.cells (infC a b c d i e sc) 26))) := by
  have hb : Lo w (w.alloc (.cells (infC a b c d i e sc) 26)) := aQ;exact ⟨by unfold Rd; rw [hb.block _ hxl]; exact hr, by rw [hb.block _ hql]; exact hq, heap_alloc_new _ _, World.ownsRow_nil _ _ _ _, World.ownsRow_nil _ _ _ _, (fun g hg => by cases hg), Stays.of_below hb _, hxl, hql, hxq, (fun n hn => absurd hn (Nat.not_lt_zero _)), (fun n hn => absurd hn (Nat.not_lt_zero _))⟩
 have HRR := kQ hR
 clear hR hr hq
 go_enter Tryz.func45, Tryz.ntmps45
 go_upto_region 1 with fail
 generalize World.alloc _ _ = wa at *
 obtain ⟨z2, z6, z7, zw, zc⟩ := H0.out.cells
 go_wp2_with fail
 try go_step3
 go_wp2_with fail
 try go_step3
 go_wp2_with fail
 clear z2 z6 z7 zw zc
 go_loopw [8, 9, 10, 11, 12, 13, 16] (fun s8 s9 s10 s11 s12 s13 s16 wr => ∃ (n : Nat) (L : List (List Int)) (S : List Sb) (lo : OA) (lk : Nat) (so : OA) (sk : Nat) (cX cY : List Value) (an : Nat), (n : Int) <= i.ch /\ s16 = .int .i64 (n : Int) /\ s8 = (.slice lo L.length lk) /\ s9 = .int .i64 0 /\ subsP s at0 i f.mo f.size n = some (L, S, an) /\ (L.length = n /\ S.length = n /\ an <= 8 * s.size) /\ RS w x q s f a b c d i e sc L S (.slice lo L.length lk) (.slice so S.length sk) (.slice so S.length sk) cX cY an wr) (fun _ _ _ _ _ _ s16 _ => i.ch.toNat - (intOf s16).toNat)
 case atStart => exact ⟨0, [], [], none, 0, none, 0, [], [], at0, by omega, rfl, rfl, rfl, rfl, ⟨rfl, rfl, hat0⟩, H0.out⟩
 case round =>
  clear H0;obtain ⟨n, L, S, lo, lk, so, sk, cX, cY, an, hn, rfl, rfl, rfl, hsub, ⟨hLn, hSn, han⟩, hrs⟩ := hrel;have HRS := kQ hrs;have HSUB := kQ hsub;have HLS : Hid (L.length = n /\ S.length = n /\ an <= 8 * s.size) := ⟨hLn, hSn, han⟩;clear hrs hsub hLn hSn;obtain ⟨z2, z6, z7, zw, zc⟩ := HRS.out.cells;have nq : wr.heap.size ≠ q := by have := lt_of_block HRS.out.fb; omega
  have nw : wr.heap.size ≠ w.heap.size := by have := lt_of_block HRS.out.ib; omega
  by_cases hlt : (n : Int) < i.ch
  ·have KW : Hid (∀ wx, G0 65 #[.int .i64 f.mo, .int .i64 (n : Int), .int .i64 i.wd] wx (.int .i64 (wdA i f.mo n))) := fun wx => f_subW i f.mo n hw wx
   have HD : Hid (RS w x q s f a b c d i e sc L S (.slice lo L.length lk) (.slice so S.length sk) (.slice so S.length sk) cX cY an wr.drew) := HRS.out.low dQ
   cases hdec : decS s an f.size (wdA i f.mo n) with
   | none => exact absurd hdec (HDD.out n an L S (by omega) HSUB.out).2.1
   | some rr =>
    have HDC := HDD.out n an L S (by omega) HSUB.out
    have HDC : Hid (DecC s an f.size (wdA i f.mo n)) := HDC.1;have HDL := (HDD.out n an L S (by omega) HSUB.out).2.2
    obtain ⟨l, z, a2⟩ := rr;have HNX : Hid (subsP s at0 i f.mo f.size (n + 1) = some (L ++ [l], S ++ [z], a2)) := subsP_next HSUB.out hdec;have HA2 : Hid (a2 <= 8 * s.size) := HDL l z a2 hdec
    have KD : Hid (∀ wx, RS w x q s f a b c d i e sc L S (.slice lo L.length lk) (.slice so S.length sk) (.slice so S.length sk) cX cY an wx -> Calls Tryz.prog 102 #[.pointer (some ⟨x, 0, none⟩), .int .i64 f.size, .int .i64 (wdA i f.mo n)] wx fun en w' => ∃ la lc ca cc pa pc ea ec, en = .returned (.tuple #[.slice la l.length lc, subV z ca cc pa pc ea ec, .int .i64 0]) /\ Hid (RS w x q s f a b c d i e sc L S (.slice lo L.length lk) (.slice so S.length sk) (.slice so S.length sk) cX cY a2 w' /\ DN w (.slice lo L.length lk) (.slice so S.length sk) l la lc z ca cc pa ea w')) := fun wx hx => (rs_dec_okC a b c d i e sc hw hch x q s hs f hsz w L S lo lk so sk cX cY an n han HDC.out l z a2 hdec wx hx).mono fun en w' qq => by
     obtain ⟨la, lc, ca, cc, pa, pc, ea, ec, q1, q2, q3, q4, q5⟩ := qq;exact ⟨la, lc, ca, cc, pa, pc, ea, ec, q1, q2⟩
    have KDA : Hid (Calls Tryz.prog 102 #[.pointer (some ⟨x, 0, none⟩), .int .i64 f.size, .int .i64 (wdA i f.mo n)] ((wr.alloc (.cells #[.int .i64 0, .int .i64 0, .int .i64 0, .int .i64 0, .int .i64 0, .slice none 0 0, .int .i64 0, .int .i64 0, .slice none 0 0, .slice none 0 0] 67)).drew) fun en w' => ∃ la lc ca cc pa pc ea ec, en = .returned (.tuple #[.slice la l.length lc, subV z ca cc pa pc ea ec, .int .i64 0]) /\ Hid (RS w x q s f a b c d i e sc L S (.slice lo L.length lk) (.slice so S.length sk) (.slice so S.length sk) cX cY a2 w' /\ DN w (.slice lo L.length lk) (.slice so S.length sk) l la lc z ca cc pa ea w') /\ w'.heap[wr.heap.size]? = some (.cells (subC S0 none 0 none 0 none 0) 67 (0, 0)) /\ Hid ((∀ k, k < wr.heap.size -> k ≠ x -> w'.heap[k]? = wr.heap[k]?) /\ (Fr (wr.heap.size + 1) la /\ Fr (wr.heap.size + 1) ca /\ Fr (wr.heap.size + 1) pa /\ Fr (wr.heap.size + 1) ea) /\ wr.heap.size <= w'.heap.size)) := by
     have hx1 := HRS.out.hx;have hxi := lt_of_block HRS.out.ib;refine (rs_dec_okC a b c d i e sc hw hch x q s hs f hsz w L S lo lk so sk cX cY an n han HDC.out l z a2 hdec _ (HRS.out.low (aQ.drew))).mono fun en w' qq => ?_;obtain ⟨la, lc, ca, cc, pa, pc, ea, ec, q1, q2, q3, q4, q5⟩ := qq;have hal : ((wr.alloc (.cells #[.int .i64 0, .int .i64 0, .int .i64 0, .int .i64 0, .int .i64 0, .slice none 0 0, .int .i64 0, .int .i64 0, .slice none 0 0, .slice none 0 0] 67)).drew).heap.size = wr.heap.size + 1 := by show (wr.alloc (.cells #[.int .i64 0, .int .i64 0, .int .i64 0, .int .i64 0, .int .i64 0, .slice none 0 0, .int .i64 0, .int .i64 0, .slice none 0 0, .slice none 0 0] 67)).heap.size = _; simp
     rw [hal] at q4 q5;refine ⟨la, lc, ca, cc, pa, pc, ea, ec, q1, q2, ?_, fun k hk hne => ?_, q4, by omega⟩
     ·rw [q3 _ (by rw [hal]; omega) (by omega)]
      exact heap_alloc_new _ _
     ·rw [q3 k (by rw [hal]; omega) hne]
      exact Below.heap_alloc _ _ _ hk
    have HC : Hid (∀ wx, Hid (RS w x q s f a b c d i e sc L S (.slice lo L.length lk) (.slice so S.length sk) (.slice so S.length sk) cX cY a2 wx /\ True) -> wx.cell? ⟨q, 2, none⟩ = some (.int .i64 f.size) /\ wx.cell? ⟨q, 6, none⟩ = some (.int .i64 f.mo) /\ wx.cell? ⟨q, 7, none⟩ = some (.slice so S.length sk) /\ wx.cell? ⟨w.heap.size, 6, none⟩ = some (.int .i64 i.wd) /\ wx.cell? ⟨w.heap.size, 5, none⟩ = some (.int .i64 i.ch)) := fun wx h => h.out.1.cells;have hL8 : L.length <= 8 := by have := HLS.out.1; omega
    have hS8 : S.length <= 8 := by have := HLS.out.2.1; omega
    have HKN : Hid (∀ k, wr.heap.size <= k -> (Value.slice lo L.length lk).ownBlock ≠ some k /\ (Value.slice so S.length sk).ownBlock ≠ some k) := fun k hk => ⟨fun e => by have := (HRS.out.oX.lt k e).2; omega, fun e => by have := (HRS.out.oY.lt k e).2; omega⟩
    clear HDC HDL HDD hdec HSUB HRR;generalize wdA i f.mo n = v at *
    go_wp2_with fail
    go_region_held3 (fun wx => wx.cell? ⟨q, 2, none⟩ = some (.int .i64 f.size) /\ wx.cell? ⟨q, 6, none⟩ = some (.int .i64 f.mo) /\ wx.cell? ⟨q, 7, none⟩ = some (.slice so S.length sk) /\ wx.cell? ⟨w.heap.size, 6, none⟩ = some (.int .i64 i.wd) /\ wx.cell? ⟨w.heap.size, 5, none⟩ = some (.int .i64 i.ch)) (first | exact HC.out _ (by with_reducible assumption) | go_keep)
     (first
     | (go_at_call 65; refine (KW.out _).mono ?_; rintro en w4 ⟨rfl, hw4⟩; subst hw4)
     | (go_at_call 102; refine (KD.out _ (by with_reducible exact HD.out)).mono ?_; rintro en w5 ⟨la, lc, ca, cc, pa, pc, ea, ec, rfl, h5⟩; obtain ⟨y2, y6, y7, yw, yc⟩ := h5.out.1.cells)
     | (go_at_call 102; with_reducible (refine KDA.out.mono ?_); rintro en w5 ⟨la, lc, ca, cc, pa, pc, ea, ec, rfl, h5, hz5, HQ5⟩; obtain ⟨y2, y6, y7, yw, yc⟩ := h5.out.1.cells; obtain ⟨k0, k1, k2, k3, k4, k5, k6, k7, k8, k9⟩ := sub_cells hz5; have r0 := row_frozen hz5 0; have r1 := row_frozen hz5 1; have r2 := row_frozen hz5 2; have r3 := row_frozen hz5 3; have r4 := row_frozen hz5 4; have r5 := row_frozen hz5 5; have r6 := row_frozen hz5 6; have r7 := row_frozen hz5 7; have r8 := row_frozen hz5 8; have r9 := row_frozen hz5 9))
    focus
     have HZ0 : Hid ((RS w x q s f a b c d i e sc L S (.slice lo L.length lk) (.slice so S.length sk) (.slice so S.length sk) cX cY a2 (w5.alloc (.cells (subC z ca cc pa pc ea ec) 67)) /\ DN w (.slice lo L.length lk) (.slice so S.length sk) l la lc z ca cc pa ea (w5.alloc (.cells (subC z ca cc pa pc ea ec) 67))) /\ (w5.alloc (.cells (subC z ca cc pa pc ea ec) 67)).heap[w5.heap.size]? = some (.cells (subC z ca cc pa pc ea ec) 67 (0, 0))) := ⟨⟨h5.out.1.low aQ, h5.out.2.low aQ⟩, heap_alloc_new _ _⟩;have HKO : Hid ((Value.slice lo L.length lk).ownBlock ≠ some w5.heap.size /\ (Value.slice so S.length sk).ownBlock ≠ some w5.heap.size) := ⟨fun e => by have := (h5.out.1.oX.lt _ e).2; omega, fun e => by have := (h5.out.1.oY.lt _ e).2; omega⟩
     clear KDA KD KW HC HD
     try clear hHeld
     clear y2 y6 y7 yw yc;generalize (w5.alloc (.cells (subC z ca cc pa pc ea ec) 67)) = wz at *;generalize w5.heap.size = k at *
    rotate_left
    iterate 2
     focus
      have HZ0 : Hid ((RS w x q s f a b c d i e sc L S (.slice lo L.length lk) (.slice so S.length sk) (.slice so S.length sk) cX cY a2 ((((((((((w5.setCell ⟨wr.heap.size, 0, none⟩ (.int .i64 z.k)).setCell ⟨wr.heap.size, 1, none⟩ (.int .i64 z.o)).setCell ⟨wr.heap.size, 2, none⟩ (.int .i64 z.w)).setCell ⟨wr.heap.size, 3, none⟩ (.int .i64 z.p)).setCell ⟨wr.heap.size, 4, none⟩ (.int .i64 z.h)).setCell ⟨wr.heap.size, 5, none⟩ (.slice ca z.C.length cc)).setCell ⟨wr.heap.size, 6, none⟩ (.int .i64 z.R.m)).setCell ⟨wr.heap.size, 7, none⟩ (.int .i64 z.R.o)).setCell ⟨wr.heap.size, 8, none⟩ (.slice pa z.R.P.length pc)).setCell ⟨wr.heap.size, 9, none⟩ (.slice ea z.R.E.length ec)) /\ DN w (.slice lo L.length lk) (.slice so S.length sk) l la lc z ca cc pa ea ((((((((((w5.setCell ⟨wr.heap.size, 0, none⟩ (.int .i64 z.k)).setCell ⟨wr.heap.size, 1, none⟩ (.int .i64 z.o)).setCell ⟨wr.heap.size, 2, none⟩ (.int .i64 z.w)).setCell ⟨wr.heap.size, 3, none⟩ (.int .i64 z.p)).setCell ⟨wr.heap.size, 4, none⟩ (.int .i64 z.h)).setCell ⟨wr.heap.size, 5, none⟩ (.slice ca z.C.length cc)).setCell ⟨wr.heap.size, 6, none⟩ (.int .i64 z.R.m)).setCell ⟨wr.heap.size, 7, none⟩ (.int .i64 z.R.o)).setCell ⟨wr.heap.size, 8, none⟩ (.slice pa z.R.P.length pc)).setCell ⟨wr.heap.size, 9, none⟩ (.slice ea z.R.E.length ec))) /\ ((((((((((w5.setCell ⟨wr.heap.size, 0, none⟩ (.int .i64 z.k)).setCell ⟨wr.heap.size, 1, none⟩ (.int .i64 z.o)).setCell ⟨wr.heap.size, 2, none⟩ (.int .i64 z.w)).setCell ⟨wr.heap.size, 3, none⟩ (.int .i64 z.p)).setCell ⟨wr.heap.size, 4, none⟩ (.int .i64 z.h)).setCell ⟨wr.heap.size, 5, none⟩ (.slice ca z.C.length cc)).setCell ⟨wr.heap.size, 6, none⟩ (.int .i64 z.R.m)).setCell ⟨wr.heap.size, 7, none⟩ (.int .i64 z.R.o)).setCell ⟨wr.heap.size, 8, none⟩ (.slice pa z.R.P.length pc)).setCell ⟨wr.heap.size, 9, none⟩ (.slice ea z.R.E.length ec)).heap[wr.heap.size]? = some (.cells (subC z ca cc pa pc ea ec) 67 (0, 0))) := ⟨rs_set10 HRS.out (set10_c _ _ _ _ _ _ _ _ _ _ _ _ _ (Or.inl rfl) (Stays.refl _ _)) h5.out.1 h5.out.2 HQ5.out.1 HQ5.out.2.1 HQ5.out.2.2, set10_a _ _ _ _ _ _ _ _ _ _ _ hz5⟩;have HKO : Hid ((Value.slice lo L.length lk).ownBlock ≠ some wr.heap.size /\ (Value.slice so S.length sk).ownBlock ≠ some wr.heap.size) := HKN.out _ (Nat.le_refl _);clear KDA KD KW HC HD
      try clear hHeld
      clear y2 y6 y7 yw yc hz5 HQ5 k0 k1 k2 k3 k4 k5 k6 k7 k8 k9 r0 r1 r2 r3 r4 r5 r6 r7 r8 r9;generalize ((((((((((w5.setCell ⟨wr.heap.size, 0, none⟩ (.int .i64 z.k)).setCell ⟨wr.heap.size, 1, none⟩ (.int .i64 z.o)).setCell ⟨wr.heap.size, 2, none⟩ (.int .i64 z.w)).setCell ⟨wr.heap.size, 3, none⟩ (.int .i64 z.p)).setCell ⟨wr.heap.size, 4, none⟩ (.int .i64 z.h)).setCell ⟨wr.heap.size, 5, none⟩ (.slice ca z.C.length cc)).setCell ⟨wr.heap.size, 6, none⟩ (.int .i64 z.R.m)).setCell ⟨wr.heap.size, 7, none⟩ (.int .i64 z.R.o)).setCell ⟨wr.heap.size, 8, none⟩ (.slice pa z.R.P.length pc)).setCell ⟨wr.heap.size, 9, none⟩ (.slice ea z.R.E.length ec)) = wz at *;generalize wr.heap.size = k at *
     rotate_left
    all_goals
     have HTD : Hid (RS w x q s f a b c d i e sc L S (.slice lo L.length lk) (.slice so S.length sk) (.slice so S.length sk) cX cY a2 wz.drew) := HZ0.out.1.1.low dQ;have HDD : Hid (DN w (.slice lo L.length lk) (.slice so S.length sk) l la lc z ca cc pa ea wz.drew) := HZ0.out.1.2.low dQ;have HBZ : Hid (wz.drew.heap[k]? = some (.cells (subC z ca cc pa pc ea ec) 67 (0, 0))) := HZ0.out.2;have HSC : Hid (∀ wx, wx.heap[k]? = some (.cells (subC z ca cc pa pc ea ec) 67 (0, 0)) -> ∀ L2 S2 vL vS cX cY, RS w x q s f a b c d i e sc L2 S2 vL vS (.slice so S.length sk) cX cY a2 wx -> wx.cell? ⟨q, 7, none⟩ = some (.slice so S.length sk) /\ wx.cell? ⟨k, 0, none⟩ = some (.int .i64 z.k) /\ wx.cell? ⟨k, 1, none⟩ = some (.int .i64 z.o) /\ wx.cell? ⟨k, 2, none⟩ = some (.int .i64 z.w) /\ wx.cell? ⟨k, 3, none⟩ = some (.int .i64 z.p) /\ wx.cell? ⟨k, 4, none⟩ = some (.int .i64 z.h) /\ wx.cell? ⟨k, 5, none⟩ = some (.slice ca z.C.length cc) /\ wx.cell? ⟨k, 6, none⟩ = some (.int .i64 z.R.m) /\ wx.cell? ⟨k, 7, none⟩ = some (.int .i64 z.R.o) /\ wx.cell? ⟨k, 8, none⟩ = some (.slice pa z.R.P.length pc) /\ wx.cell? ⟨k, 9, none⟩ = some (.slice ea z.R.E.length ec)) := fun wx hb L2 S2 vL vS cX cY h => ⟨h.cells.2.2.1, sub_cells hb⟩;clear HZ0 HRS z2 z6 z7 zw zc nq nw
     go_wp2_with fail
     refine wp_region_noPanic ?_;refine Till.begin (n := 15) (S := fun wx => wx.cell? ⟨q, 7, none⟩ = some (.slice so S.length sk) /\ wx.cell? ⟨k, 0, none⟩ = some (.int .i64 z.k) /\ wx.cell? ⟨k, 1, none⟩ = some (.int .i64 z.o) /\ wx.cell? ⟨k, 2, none⟩ = some (.int .i64 z.w) /\ wx.cell? ⟨k, 3, none⟩ = some (.int .i64 z.p) /\ wx.cell? ⟨k, 4, none⟩ = some (.int .i64 z.h) /\ wx.cell? ⟨k, 5, none⟩ = some (.slice ca z.C.length cc) /\ wx.cell? ⟨k, 6, none⟩ = some (.int .i64 z.R.m) /\ wx.cell? ⟨k, 7, none⟩ = some (.int .i64 z.R.o) /\ wx.cell? ⟨k, 8, none⟩ = some (.slice pa z.R.P.length pc) /\ wx.cell? ⟨k, 9, none⟩ = some (.slice ea z.R.E.length ec)) (by kernel_rfl) (HSC.out _ HBZ.out _ _ _ _ _ _ HTD.out) (fun hS => ?_)
     refine Till.takeP (i := 0) (v := .pointer (some ⟨q, 0, none⟩)) rfl (by kernel_rfl) (by kernel_rfl) (by kernel_rfl) (fun _ _ _ h => h) (by decide) (Or.inl ⟨by rfl, fun w _ => by go_simp⟩) hS ?_
     try simp only [SL]
     refine Till.takeP (i := 1) (v := (.slice lo L.length lk)) rfl (by kernel_rfl) (by kernel_rfl) (by kernel_rfl) (fun _ _ _ h => h) (by decide) (Or.inl ⟨by rfl, fun w _ => by go_simp⟩) hS ?_
     try simp only [SL]
     refine Till.takeP (i := 2) (v := .slice la l.length lc) rfl (by kernel_rfl) (by kernel_rfl) (by kernel_rfl) (fun _ _ _ h => h) (by decide) (Or.inl ⟨by rfl, fun w _ => by go_simp⟩) hS ?_
     try simp only [SL]
     refine Till.takeP (i := 5) (v := .pointer (some ⟨q, 0, none⟩)) rfl (by kernel_rfl) (by kernel_rfl) (by kernel_rfl) (fun _ _ _ h => h) (by decide) (Or.inl ⟨by rfl, fun w _ => by go_simp⟩) hS ?_
     try simp only [SL]
     refine Till.takeP (i := 6) (v := .pointer (some ⟨q, 0, none⟩)) rfl (by kernel_rfl) (by kernel_rfl) (by kernel_rfl) (fun _ _ _ h => h) (by decide) (Or.inl ⟨by rfl, fun w _ => by go_simp⟩) hS ?_
     try simp only [SL]
     refine Till.takeP (i := 7) (v := .pointer (some ⟨q, 7, none⟩)) rfl (by kernel_rfl) (by kernel_rfl) (by kernel_rfl) (fun _ _ _ h => h) (by decide) (Or.inl ⟨by rfl, fun w _ => by go_simp⟩) hS ?_
     try simp only [SL]
     refine Till.take (i := 8) (v := (.slice so S.length sk)) rfl (by kernel_rfl) (by kernel_rfl) (by kernel_rfl) (fun _ _ _ h => h) (by decide) (Waits.of (by kernel_rfl)) (by kernel_rfl) (Or.inl ⟨by rfl, fun w hSw => by (obtain ⟨s0, s1, s2, s3, s4, s5, s6, s7, s8, s9, s10⟩ := hSw; go_simp)⟩) hS ?_
     try simp only [SL]
     refine Till.take (i := 9) (v := subV z ca cc pa pc ea ec) rfl (by kernel_rfl) (by kernel_rfl) (by kernel_rfl) (fun _ _ _ h => h) (by decide) (Waits.of (by kernel_rfl)) (by kernel_rfl) (Or.inl ⟨by rfl, fun w hSw => by (obtain ⟨s0, s1, s2, s3, s4, s5, s6, s7, s8, s9, s10⟩ := hSw; go_simp)⟩) hS ?_
     try simp only [SL]
     refine Till.ready (rs := [3, 10]) (by kernel_rfl) (by simp) ?_
     refine Ups.cons rfl (fun K hK => ?_) ?_
     focus
      go_simp;have R1 : RS w x q s f a b c d i e sc L S (.slice lo L.length lk) (.slice so S.length sk) (.slice so S.length sk) cX cY a2 (wz.drew.alloc (.cells #[.slice la l.length lc] 56)) := HTD.out.low aQ;have D1 : DN w (.slice lo L.length lk) (.slice so S.length sk) l la lc z ca cc pa ea (wz.drew.alloc (.cells #[.slice la l.length lc] 56)) := HDD.out.low aQ;have B1 : (wz.drew.alloc (.cells #[.slice la l.length lc] 56)).heap[k]? = some (.cells (subC z ca cc pa pc ea ec) 67 (0, 0)) := by rw [Below.heap_alloc _ _ _ (lt_of_block HBZ.out)]; exact HBZ.out
      have Z1 : w.heap.size + 1 <= (wz.drew.alloc (.cells #[.slice la l.length lc] 56)).heap.size := by have := lt_of_block R1.ib; omega
      have hS3 := HSC.out _ B1 _ _ _ _ _ _ R1;refine hK.out _ _ (fun _ => hS3) ?_;clear hK K
      try simp only [SL]
      refine Till.ready (rs := [4, 10]) (by kernel_rfl) (by simp) ?_
      refine Ups.cons rfl (fun K hK => ?_) ?_
      focus
       refine step_append_lies _ (by rfl) _ _ _ (by rfl) (w.heap.size + 1) 56 iX (.slice none 0 0) 1 24 undRows hXa hXb hXc hXd rfl (by omega) (.slice lo L.length lk) L.length cX (by rfl) R1.oX ⟨wz.heap.size, 0, none⟩ 1 1 [.slice la l.length lc] (by rfl) (by rfl) (World.news_of_block (cs := #[.slice la l.length lc]) (t := 56) (fr := (0, 0)) (heap_alloc_new _ _)) (one_slice _ _ _) (by omega) (by unfold maxLen; omega) (by omega) Z1 _ rfl ?_
       intro gX kX wX ownX groX hatX hltX;have HTX : Hid (RS w x q s f a b c d i e sc (L ++ [l]) S (.slice (some ⟨gX, 0, none⟩) (L.length + 1) kX) (.slice so S.length sk) (.slice so S.length sk) (cX ++ [.slice la l.length lc]) cY a2 wX) := (R1).pushX ownX groX hatX (D1).li (D1).ll (D1).lf;have HDX : Hid (DN w (.slice (some ⟨gX, 0, none⟩) (L.length + 1) kX) (.slice so S.length sk) l la lc z ca cc pa ea wX) := (D1).grown groX hatX
       have HBX : Hid (wX.heap[k]? = some (.cells (subC z ca cc pa pc ea ec) 67 (0, 0))) := by
        show _ = _;rw [groX.block k (lt_of_block B1) (fun e => HKO.out.1 e.symm)]; exact B1
       have hS4 := HSC.out _ HBX.out _ _ _ _ _ _ HTX.out;refine hK.out _ _ (fun _ => hS4) ?_;clear hK K
       try simp only [SL]
       refine Till.ready (rs := [10]) (by kernel_rfl) (by simp) ?_
       refine Ups.cons rfl (fun K hK => ?_) Ups.nil;go_simp;have R2 : RS w x q s f a b c d i e sc (L ++ [l]) S (.slice (some ⟨gX, 0, none⟩) (L.length + 1) kX) (.slice so S.length sk) (.slice so S.length sk) (cX ++ [.slice la l.length lc]) cY a2 (wX.alloc (.cells (subC z ca cc pa pc ea ec) 67)) := HTX.out.low aQ;have D2 : DN w (.slice (some ⟨gX, 0, none⟩) (L.length + 1) kX) (.slice so S.length sk) l la lc z ca cc pa ea (wX.alloc (.cells (subC z ca cc pa pc ea ec) 67)) := HDX.out.low aQ;have B2 : (wX.alloc (.cells (subC z ca cc pa pc ea ec) 67)).heap[k]? = some (.cells (subC z ca cc pa pc ea ec) 67 (0, 0)) := by rw [Below.heap_alloc _ _ _ (lt_of_block HBX.out)]; exact HBX.out
       have Z2 : w.heap.size + 1 <= (wX.alloc (.cells (subC z ca cc pa pc ea ec) 67)).heap.size := by have := lt_of_block R2.ib; omega
       have HBX2 := B2;have hS7 := HSC.out _ B2 _ _ _ _ _ _ R2;refine hK.out _ _ (fun _ => hS7) ?_;clear hK K
       try simp only [SL]
       refine Till.ready (rs := [11]) (by kernel_rfl) (by simp) ?_
       refine Ups.cons rfl (fun K hK => ?_) Ups.nil;refine step_append_lies _ (by rfl) _ _ _ (by rfl) (w.heap.size + 1) 67 iY (.agg (subC S0 none 0 none 0 none 0)) 10 128 undSubs hYa hYb hYc hYd rfl (by omega) (.slice so S.length sk) S.length cY (by rfl) R2.oY ⟨wX.heap.size, 0, none⟩ 1 1 (subC z ca cc pa pc ea ec).toList (by rfl) (by rfl) (World.news_of_block (cs := subC z ca cc pa pc ea ec) (t := 67) (fr := (0, 0)) (heap_alloc_new _ _)) (one_sub _ _ _ _ _ _ _) (by omega) (by unfold maxLen; omega) (by omega) Z2 _ rfl ?_
       intro gY kY wY ownY groY hatY hltY;have HTY : Hid (RS w x q s f a b c d i e sc (L ++ [l]) (S ++ [z]) (.slice (some ⟨gX, 0, none⟩) (L.length + 1) kX) (.slice (some ⟨gY, 0, none⟩) (S.length + 1) kY) (.slice so S.length sk) (cX ++ [.slice la l.length lc]) (cY ++ (subC z ca cc pa pc ea ec).toList) a2 wY) := (R2).pushY ownY groY hatY (D2).zi (D2).zl (D2).cf (D2).pf (D2).ef
       have HBY : Hid (wY.heap[k]? = some (.cells (subC z ca cc pa pc ea ec) 67 (0, 0))) := by
        show _ = _;rw [groY.block k (lt_of_block HBX2) (fun e => HKO.out.2 e.symm)]; exact HBX2
       have hS9 := HSC.out _ HBY.out _ _ _ _ _ _ HTY.out;refine hK.out _ _ (fun _ => hS9) ?_;clear hK K
       try simp only [SL]
      rotate_left
      focus
       refine Ups.cons rfl (fun K hK => ?_) Ups.nil;go_simp;have R2 : RS w x q s f a b c d i e sc L S (.slice lo L.length lk) (.slice so S.length sk) (.slice so S.length sk) cX cY a2 ((wz.drew.alloc (.cells #[.slice la l.length lc] 56)).alloc (.cells (subC z ca cc pa pc ea ec) 67)) := R1.low aQ;have D2 : DN w (.slice lo L.length lk) (.slice so S.length sk) l la lc z ca cc pa ea ((wz.drew.alloc (.cells #[.slice la l.length lc] 56)).alloc (.cells (subC z ca cc pa pc ea ec) 67)) := D1.low aQ;have B2 : ((wz.drew.alloc (.cells #[.slice la l.length lc] 56)).alloc (.cells (subC z ca cc pa pc ea ec) 67)).heap[k]? = some (.cells (subC z ca cc pa pc ea ec) 67 (0, 0)) := by rw [Below.heap_alloc _ _ _ (lt_of_block B1)]; exact B1
       have Z2 : w.heap.size + 1 <= ((wz.drew.alloc (.cells #[.slice la l.length lc] 56)).alloc (.cells (subC z ca cc pa pc ea ec) 67)).heap.size := by have := lt_of_block R2.ib; omega
       have hS7 := HSC.out _ B2 _ _ _ _ _ _ R2;refine hK.out _ _ (fun _ => hS7) ?_;clear hK K
       try simp only [SL]
       refine Till.ready (rs := [4]) (by kernel_rfl) (by simp) ?_
       refine Ups.cons rfl (fun K hK => ?_) Ups.nil;refine step_append_lies _ (by rfl) _ _ _ (by rfl) (w.heap.size + 1) 56 iX (.slice none 0 0) 1 24 undRows hXa hXb hXc hXd rfl (by omega) (.slice lo L.length lk) L.length cX (by rfl) R2.oX ⟨wz.heap.size, 0, none⟩ 1 1 [.slice la l.length lc] (by rfl) (by rfl) (World.news_of_block (cs := #[.slice la l.length lc]) (t := 56) (fr := (0, 0)) (tmpn_old wz _ _)) (one_slice _ _ _) (by omega) (by unfold maxLen; omega) (by omega) Z2 _ rfl ?_
       intro gX kX wX ownX groX hatX hltX;have HTX : Hid (RS w x q s f a b c d i e sc (L ++ [l]) S (.slice (some ⟨gX, 0, none⟩) (L.length + 1) kX) (.slice so S.length sk) (.slice so S.length sk) (cX ++ [.slice la l.length lc]) cY a2 wX) := (R2).pushX ownX groX hatX (D2).li (D2).ll (D2).lf;have HDX : Hid (DN w (.slice (some ⟨gX, 0, none⟩) (L.length + 1) kX) (.slice so S.length sk) l la lc z ca cc pa ea wX) := (D2).grown groX hatX
       have HBX : Hid (wX.heap[k]? = some (.cells (subC z ca cc pa pc ea ec) 67 (0, 0))) := by
        show _ = _;rw [groX.block k (lt_of_block B2) (fun e => HKO.out.1 e.symm)]; exact B2
       have HTM : Hid (wX.heap[wz.heap.size + 1]? = some (.cells (subC z ca cc pa pc ea ec) 67 (0, 0))) := by
        show _ = _;have htm : ((wz.drew.alloc (.cells #[.slice la l.length lc] 56)).alloc (.cells (subC z ca cc pa pc ea ec) 67)).heap[wz.heap.size + 1]? = some (.cells (subC z ca cc pa pc ea ec) 67 (0, 0)) := tmpn_next wz _ _;rw [groX.block _ (lt_of_block htm) (fun e => by have h9 := (HTD.out.oX.lt _ e.symm).2; have h8 : wz.drew.heap.size = wz.heap.size := rfl; omega)]
        exact htm
       have HBX2 := HBX.out;have ZX : w.heap.size + 1 <= wX.heap.size := by have := lt_of_block HTX.out.ib; omega
       have hS4 := HSC.out _ HBX.out _ _ _ _ _ _ HTX.out;refine hK.out _ _ (fun _ => hS4) ?_;clear hK K
       try simp only [SL]
       refine Till.ready (rs := [11]) (by kernel_rfl) (by simp) ?_
       refine Ups.cons rfl (fun K hK => ?_) Ups.nil;refine step_append_lies _ (by rfl) _ _ _ (by rfl) (w.heap.size + 1) 67 iY (.agg (subC S0 none 0 none 0 none 0)) 10 128 undSubs hYa hYb hYc hYd rfl (by omega) (.slice so S.length sk) S.length cY (by rfl) HTX.out.oY ⟨wz.heap.size + 1, 0, none⟩ 1 1 (subC z ca cc pa pc ea ec).toList (by rfl) (by rfl) (World.news_of_block (cs := subC z ca cc pa pc ea ec) (t := 67) (fr := (0, 0)) (HTM.out)) (one_sub _ _ _ _ _ _ _) (by omega) (by unfold maxLen; omega) (by omega) ZX _ rfl ?_
       intro gY kY wY ownY groY hatY hltY;have HTY := kQ ((HTX.out).pushY ownY groY hatY (HDX.out).zi (HDX.out).zl (HDX.out).cf (HDX.out).pf (HDX.out).ef)
       have HBY : Hid (wY.heap[k]? = some (.cells (subC z ca cc pa pc ea ec) 67 (0, 0))) := by
        show _ = _;rw [groY.block k (lt_of_block HBX2) (fun e => HKO.out.2 e.symm)]; exact HBX2
       have hS9 := HSC.out _ HBY.out _ _ _ _ _ _ HTY.out;refine hK.out _ _ (fun _ => hS9) ?_;clear hK K
       try simp only [SL]
     rotate_left 2
     focus
      refine Ups.cons rfl (fun K hK => ?_) Ups.nil;go_simp;have R1 : RS w x q s f a b c d i e sc L S (.slice lo L.length lk) (.slice so S.length sk) (.slice so S.length sk) cX cY a2 (wz.drew.alloc (.cells (subC z ca cc pa pc ea ec) 67)) := HTD.out.low aQ;have D1 : DN w (.slice lo L.length lk) (.slice so S.length sk) l la lc z ca cc pa ea (wz.drew.alloc (.cells (subC z ca cc pa pc ea ec) 67)) := HDD.out.low aQ;have B1 : (wz.drew.alloc (.cells (subC z ca cc pa pc ea ec) 67)).heap[k]? = some (.cells (subC z ca cc pa pc ea ec) 67 (0, 0)) := by rw [Below.heap_alloc _ _ _ (lt_of_block HBZ.out)]; exact HBZ.out
      have Z1 : w.heap.size + 1 <= (wz.drew.alloc (.cells (subC z ca cc pa pc ea ec) 67)).heap.size := by have := lt_of_block R1.ib; omega
      have hS3 := HSC.out _ B1 _ _ _ _ _ _ R1;refine hK.out _ _ (fun _ => hS3) ?_;clear hK K
      try simp only [SL]
      refine Till.ready (rs := [3]) (by kernel_rfl) (by simp) ?_
      refine Ups.cons rfl (fun K hK => ?_) Ups.nil;go_simp;have R2 : RS w x q s f a b c d i e sc L S (.slice lo L.length lk) (.slice so S.length sk) (.slice so S.length sk) cX cY a2 ((wz.drew.alloc (.cells (subC z ca cc pa pc ea ec) 67)).alloc (.cells #[.slice la l.length lc] 56)) := R1.low aQ;have D2 : DN w (.slice lo L.length lk) (.slice so S.length sk) l la lc z ca cc pa ea ((wz.drew.alloc (.cells (subC z ca cc pa pc ea ec) 67)).alloc (.cells #[.slice la l.length lc] 56)) := D1.low aQ;have B2 : ((wz.drew.alloc (.cells (subC z ca cc pa pc ea ec) 67)).alloc (.cells #[.slice la l.length lc] 56)).heap[k]? = some (.cells (subC z ca cc pa pc ea ec) 67 (0, 0)) := by rw [Below.heap_alloc _ _ _ (lt_of_block B1)]; exact B1
      have Z2 : w.heap.size + 1 <= ((wz.drew.alloc (.cells (subC z ca cc pa pc ea ec) 67)).alloc (.cells #[.slice la l.length lc] 56)).heap.size := by have := lt_of_block R2.ib; omega
      have hS7 := HSC.out _ B2 _ _ _ _ _ _ R2;refine hK.out _ _ (fun _ => hS7) ?_;clear hK K
      try simp only [SL]
      refine Till.ready (rs := [4]) (by kernel_rfl) (by simp) ?_
      refine Ups.cons rfl (fun K hK => ?_) Ups.nil;refine step_append_lies _ (by rfl) _ _ _ (by rfl) (w.heap.size + 1) 56 iX (.slice none 0 0) 1 24 undRows hXa hXb hXc hXd rfl (by omega) (.slice lo L.length lk) L.length cX (by rfl) R2.oX ⟨wz.heap.size + 1, 0, none⟩ 1 1 [.slice la l.length lc] (by rfl) (by rfl) (World.news_of_block (cs := #[.slice la l.length lc]) (t := 56) (fr := (0, 0)) (tmpn_next wz _ _)) (one_slice _ _ _) (by omega) (by unfold maxLen; omega) (by omega) Z2 _ rfl ?_
      intro gX kX wX ownX groX hatX hltX;have HTX : Hid (RS w x q s f a b c d i e sc (L ++ [l]) S (.slice (some ⟨gX, 0, none⟩) (L.length + 1) kX) (.slice so S.length sk) (.slice so S.length sk) (cX ++ [.slice la l.length lc]) cY a2 wX) := (R2).pushX ownX groX hatX (D2).li (D2).ll (D2).lf;have HDX : Hid (DN w (.slice (some ⟨gX, 0, none⟩) (L.length + 1) kX) (.slice so S.length sk) l la lc z ca cc pa ea wX) := (D2).grown groX hatX
      have HBX : Hid (wX.heap[k]? = some (.cells (subC z ca cc pa pc ea ec) 67 (0, 0))) := by
       show _ = _;rw [groX.block k (lt_of_block B2) (fun e => HKO.out.1 e.symm)]; exact B2
      have HTM : Hid (wX.heap[wz.heap.size]? = some (.cells (subC z ca cc pa pc ea ec) 67 (0, 0))) := by
       show _ = _;have htm : ((wz.drew.alloc (.cells (subC z ca cc pa pc ea ec) 67)).alloc (.cells #[.slice la l.length lc] 56)).heap[wz.heap.size]? = some (.cells (subC z ca cc pa pc ea ec) 67 (0, 0)) := tmpn_old wz _ _;rw [groX.block _ (lt_of_block htm) (fun e => by have h9 := (HTD.out.oX.lt _ e.symm).2; have h8 : wz.drew.heap.size = wz.heap.size := rfl; omega)]
       exact htm
      have HBX2 := HBX.out;have ZX : w.heap.size + 1 <= wX.heap.size := by have := lt_of_block HTX.out.ib; omega
      have hS4 := HSC.out _ HBX.out _ _ _ _ _ _ HTX.out;refine hK.out _ _ (fun _ => hS4) ?_;clear hK K
      try simp only [SL]
      refine Till.ready (rs := [11]) (by kernel_rfl) (by simp) ?_
      refine Ups.cons rfl (fun K hK => ?_) Ups.nil;refine step_append_lies _ (by rfl) _ _ _ (by rfl) (w.heap.size + 1) 67 iY (.agg (subC S0 none 0 none 0 none 0)) 10 128 undSubs hYa hYb hYc hYd rfl (by omega) (.slice so S.length sk) S.length cY (by rfl) HTX.out.oY ⟨wz.heap.size, 0, none⟩ 1 1 (subC z ca cc pa pc ea ec).toList (by rfl) (by rfl) (World.news_of_block (cs := subC z ca cc pa pc ea ec) (t := 67) (fr := (0, 0)) (HTM.out)) (one_sub _ _ _ _ _ _ _) (by omega) (by unfold maxLen; omega) (by omega) ZX _ rfl ?_
      intro gY kY wY ownY groY hatY hltY;have HTY := kQ ((HTX.out).pushY ownY groY hatY (HDX.out).zi (HDX.out).zl (HDX.out).cf (HDX.out).pf (HDX.out).ef)
      have HBY : Hid (wY.heap[k]? = some (.cells (subC z ca cc pa pc ea ec) 67 (0, 0))) := by
       show _ = _;rw [groY.block k (lt_of_block HBX2) (fun e => HKO.out.2 e.symm)]; exact HBX2
      have hS9 := HSC.out _ HBY.out _ _ _ _ _ _ HTY.out;refine hK.out _ _ (fun _ => hS9) ?_;clear hK K
      try simp only [SL]
     all_goals
      refine Till.takeP (i := 12) (v := (.slice (some ⟨gX, 0, none⟩) (L.length + 1) kX)) rfl (by kernel_rfl) (by kernel_rfl) (by kernel_rfl) (fun _ _ _ h => h) (by decide) (Or.inl ⟨by rfl, fun w _ => by go_simp⟩) hS9 ?_
      try simp only [SL]
      refine Till.takeP (i := 13) (v := .pointer (some ⟨q, 0, none⟩)) rfl (by kernel_rfl) (by kernel_rfl) (by kernel_rfl) (fun _ _ _ h => h) (by decide) (Or.inl ⟨by rfl, fun w _ => by go_simp⟩) hS9 ?_
      try simp only [SL]
      refine Till.takeP (i := 14) (v := .pointer (some ⟨q, 7, none⟩)) rfl (by kernel_rfl) (by kernel_rfl) (by kernel_rfl) (fun _ _ _ h => h) (by decide) (Or.inl ⟨by rfl, fun w _ => by go_simp⟩) hS9 ?_
      try simp only [SL]
      obtain ⟨z2, z6, z7, zw, zc⟩ := HTY.out.cells;have fz7 := row_frozen HTY.out.fb 7;refine Till.ready (rs := [15]) (by kernel_rfl) (by simp) ?_
      refine Ups.cons rfl (fun K hK => ?_) Ups.nil;go_simp;refine hK.out _ _ (fun h => Bool.noConfusion (Eq.trans (Eq.symm h) (by kernel_rfl : _ = true))) ?_
      clear hK K
      try simp only [SL]
      refine Till.done (by kernel_rfl) ?_
      have HST := kQ HTY.out.store;clear z2 z6 z7 zw zc fz7;refine NoPanic.normal ?_
      go_wp2_with fail
      go_roundw
      case rel => exact ⟨n + 1, L ++ [l], S ++ [z], _, _, _, _, _, _, a2, by omega, by go_num, by rw [List.length_append]; rfl, rfl, HNX.out, ⟨by rw [List.length_append, HLS.out.1]; rfl, by rw [List.length_append, HLS.out.2.1]; rfl, HA2.out⟩, by rw [List.length_append, List.length_append]; exact HST.out⟩
      case measure => simp [intOf]; omega
  ·have HE : Hid (R = some (L, S, an)) := by
    show _ = _;rw [<- HRR.out, show i.ch.toNat = n by omega]; exact HSUB.out
   go_wp2_with fail
   try rw [Exit.noGoto_ret]
   go_ret2
   exact ⟨_, _, rfl, HRS.out.st, Or.inr ⟨L, S, an, _, _, cX, cY, HE.out, rfl, rfl, by have := HLS.out.1; omega, by have := HLS.out.2.1; omega, HLS.out.2.2, HRS.out⟩⟩
end Go.Proofs.YtfpfabmbipmipaaGreatDoor
