/- Own text: the program's readEach. the program's foretold and readRest. -/
import Derived.Test.YtkhdkmdiblomhaaG29x
namespace Go.Proofs.Ytkhdkmdiblomhaa
open Go.RowKit
set_option linter.unusedSimpArgs false
set_option linter.unusedVariables false

/-- A row that was made at n or above, and is whole. -/
structure RowS (n : Nat) (ao : Option Addr) (cap : Nat) (L : List Int) (wx : World) : Prop where
  at_ : ∃ g, ao = some ⟨g, 0, none⟩ ∧ n ≤ g ∧ ∃ cs : Array Value, wx.heap[g]? = some (.cells cs 3 (0, 0)) ∧ ∀ j, j < L.length → cs[j]? = some (.int .i64 (L.getD j 0))
  cap_ : L.length ≤ cap
  len : L.length ≤ 17592186044415
  num : Rng L
section
variable {w wx w' : World} {n : Nat} {ao : Option Addr} {cap : Nat} {L : List Int}
theorem Made.row (h : Made w ao cap L wx) : RowS w.heap.size ao cap L wx := ⟨h.at_, h.cap_, h.len, h.num⟩
theorem RowS.ints (h : RowS n ao cap L wx) : IntsAt wx ao L := by
  obtain ⟨g, rfl, _, cs, h1, h2⟩ := h.at_
  exact ⟨h.len, h.num, fun _ => ⟨g, 0, rfl, fun j hj => by rw [cell_row h1, Nat.zero_add]; exact h2 j hj⟩⟩
theorem RowS.stays (h : RowS n ao cap L wx) {S : Nat → Prop} (hS : Stays S wx w') (hn : ∀ g, n ≤ g → ¬ S g) : RowS n ao cap L w' := by
  obtain ⟨g, h0, h1, cs, h2, h3⟩ := h.at_
  exact ⟨⟨g, h0, h1, cs, by rw [hS.block _ (lt_of_block h2) (hn g h1)]; exact h2, h3⟩, h.cap_, h.len, h.num⟩
theorem RowS.keep (h : RowS n ao cap L wx) (hb : ∀ g, n ≤ g → g < wx.heap.size → w'.heap[g]? = wx.heap[g]?) : RowS n ao cap L w' := by
  obtain ⟨g, h0, h1, cs, h2, h3⟩ := h.at_
  exact ⟨⟨g, h0, h1, cs, by rw [hb g h1 (lt_of_block h2)]; exact h2, h3⟩, h.cap_, h.len, h.num⟩
theorem RowS.low (h : RowS n ao cap L wx) (hb : Below wx.heap.size wx w') : RowS n ao cap L w' := h.keep (fun g _ hg => hb.block g hg)
theorem RowS.mono (h : RowS n ao cap L wx) {m : Nat} (hm : m ≤ n) : RowS m ao cap L wx := by
  obtain ⟨g, h0, h1, h2⟩ := h.at_
  exact ⟨⟨g, h0, Nat.le_trans hm h1, h2⟩, h.cap_, h.len, h.num⟩
theorem RowS.none_ (h : RowS n ao cap L wx) : ao = none → cap = 0 := fun e => by
  obtain ⟨g, h0, _⟩ := h.at_
  rw [e] at h0; cases h0
theorem RowS.fr (h : RowS n ao cap L wx) : Fr n ao := fun b hb => by
  obtain ⟨g, rfl, h1, _⟩ := h.at_
  have e : g = b := by simpa [blockOf] using hb
  omega
theorem RowS.of_blk {g : Nat} (h : IntsBlk wx g L) (hg : n ≤ g) (hc : L.length ≤ cap) (hl : L.length ≤ 17592186044415) (hn : Rng L) : RowS n (some ⟨g, 0, none⟩) cap L wx :=
  ⟨⟨g, rfl, hg, _, h, fun j hj => by
    rw [List.getElem?_toArray]
    unfold intsC
    rw [List.getElem?_map, List.getElem?_eq_getElem hj, List.getD_eq_getElem?_getD, List.getElem?_eq_getElem hj]
    rfl⟩, hc, hl, hn⟩
end
theorem rd_sig (s : ByteArray) (a : Nat) (v : Int) (h1 : ¬ v = -1) (h0 : ¬ v = 0) : rdE s a 0 v = sgnE s a v ∧ rdV s a 0 v = sgnV s a v ∧ rdA s a 0 v = sgnA s a v := by
  unfold rdE rdV rdA
  rw [if_neg h1, if_neg h0, if_neg h1, if_neg h0, if_neg h1, if_neg h0]
  exact ⟨rfl, rfl, rfl⟩
theorem rdAll_rng {s : ByteArray} {v : Int} {n a a1 : Nat} {X : List Int} (h1 : ¬ v = -1) (h0 : ¬ v = 0) (h : rdAll s 0 v n a = some (X, a1)) : Rng X := by
  have hh := (nums_again h).1
  refine fit_rng X v (fun x hx => ?_)
  exact (fit0 v x h1 h0).1 (hh x hx)
theorem made_zero (b : Nat) (w : World) : IntsBlk (w.alloc (.cells (madeCells #[.int .i64 0] b) 3)) w.heap.size (List.replicate b 0) := by
  have hg := heap_alloc_new w (.cells (madeCells #[.int .i64 0] b) 3)
  have hmc : madeCells #[.int .i64 0] b = (intsC (List.replicate b 0)).toArray := by
    rw [intsC_rep]
    apply Array.ext_getElem?
    intro j
    have hr : (List.replicate b (Value.int .i64 0)).toArray[j]? = if j < b then some (Value.int .i64 0) else none := by
      rw [List.getElem?_toArray, List.getElem?_replicate]
    rw [hr]
    by_cases hj : j < b
    · rw [if_pos hj]
      simp only [madeCells, Array.getElem?_map, Array.getElem?_range, hj, if_true, Option.map_some]
      have hs1 : (#[.int .i64 0] : Array Value).size = 1 := rfl
      rw [hs1, Nat.mod_one]
      rfl
    · rw [if_neg hj, Array.getElem?_eq_none (by rw [size_madeCells]; omega)]
  unfold IntsBlk
  rw [hg, hmc]
set_option maxRecDepth 20000 in
set_option maxHeartbeats 3200000 in
theorem s_reach (x : Nat) (s : ByteArray) (hs : s.size ≤ 1000000000000000000) (a : Nat) (ha : a ≤ 8 * s.size) (n : Nat) (hn : n ≤ 65535) (v : Int) (hv : 1 ≤ v) (hv2 : v ≤ 64) (w : World) (h : Rd w x s a) :
    Calls Try.prog 44 #[.pointer (some ⟨x, 0, none⟩), .int .i64 (n : Int), .int .i64 v] w fun e w' => Stays (only x) w w' ∧ OPost (rdAll s 0 v n a) (e = .returned (.tuple #[.slice none 0 0, .bool false])) (fun p => ∃ la lc, e = .returned (.tuple #[.slice la p.1.length lc, .bool true]) ∧ RowS w.heap.size la lc p.1 w' ∧ Rd w' x s p.2) := by
  have hmk := make_ints n (by omega)
  have hxw : x < w.heap.size := lt_of_block h
  have HM : Hid (IntsBlk (w.alloc (.cells (madeCells #[.int .i64 0] n) 3)) w.heap.size (List.replicate n 0) ∧ Rd (w.alloc (.cells (madeCells #[.int .i64 0] n) 3)) x s a ∧ Stays (only x) w (w.alloc (.cells (madeCells #[.int .i64 0] n) 3))) :=
    ⟨made_zero n w, h.below ((Below.refl _ _).alloc (Nat.le_refl _) _), Stays.of_below ((Below.refl _ _).alloc (Nat.le_refl _) _) _⟩
  have KS : Hid (∀ ai wx, ai ≤ 8 * s.size → Rd wx x s ai → Calls Try.prog 66 #[.pointer (some ⟨x, 0, none⟩), .int .i64 v] wx fun e w' => e = .returned (.tuple #[.int .i64 (sgnV s ai v), .int .i64 (sgnE s ai v)]) ∧ Rd w' x s (sgnA s ai v) ∧ Stays (only x) wx w') := fun ai wx hai hh => signed_all s hs ai hai wx x v hh
  clear h
  go_enter Try.func44, Try.ntmps44
  go_wp2_with fail
  generalize hwa : w.alloc _ = wa at *
  clear hwa hmk
  go_loopw [9, 10, 11, 16, 19] (fun s9 s10 s11 s16 s19 wr => ∃ (i ai : Nat) (X : List Int), i ≤ n ∧ s16 = .int .i64 (i : Int) ∧ rdAll s 0 v i a = some (X, ai) ∧ Rd wr x s ai ∧ IntsBlk wr w.heap.size (X ++ List.replicate (n - i) 0) ∧ Stays (only x) w wr) (fun _ _ _ s16 _ _ => n - (intOf s16).toNat)
  case atStart => exact ⟨0, a, [], Nat.zero_le _, rfl, rfl, HM.out.2.1, HM.out.1, HM.out.2.2⟩
  case round =>
    clear HM
    obtain ⟨i, ai, X, hi, rfl, hra, hrd, hbk, hst⟩ := hrel
    have hxl := rdAll_len hra
    have hal := rdAll_le hra ha
    obtain ⟨q1, q2, q3⟩ := rd_sig s ai v (by omega) (by omega)
    have HS : Hid (Stays (only x) w wr) := hst
    have HBK : Hid (IntsBlk wr w.heap.size (X ++ List.replicate (n - i) 0)) := hbk
    by_cases hlt : i < n
    · have ks := KS.out ai wr hal hrd
      have HX : Hid (X.length = i) := hxl
      by_cases hE : sgnE s ai v = 0
      · have HN : Hid (rdAll s 0 v (i + 1) a = some (X ++ [sgnV s ai v], sgnA s ai v)) := by
          have := rdAll_some hra (by rw [q1]; exact hE)
          rw [q2, q3] at this
          exact this
        rw [hE] at ks
        clear hE hra hrd hbk hst hxl q1 q2 q3 hal
        generalize sgnV s ai v = vv at *
        generalize sgnA s ai v = aa at *
        go_wp2_with fail
        refine ks.mono ?_
        rintro e w2 ⟨rfl, h2, h3⟩
        have HB2 : Hid (IntsBlk w2 w.heap.size (X ++ List.replicate (n - i) 0)) := HBK.out.stays h3 (fun e => by have h4 : w.heap.size = x := e; omega)
        have HR2 : Hid (Rd w2 x s aa) := h2
        have HS2 : Hid (Stays (only x) w w2) := HS.out.trans h3 (fun _ _ h => h)
        have y5 := HB2.out.cell i (by rw [List.length_append, HX.out, List.length_replicate]; omega)
        have z5 := HB2.out.frozen i
        clear ks h2 h3 HBK HS
        have HB3 : Hid (IntsBlk (w2.setCell ⟨w.heap.size, i, none⟩ (.int .i64 vv)) w.heap.size (X ++ [vv] ++ List.replicate (n - (i + 1)) 0)) := by
          have := HB2.out.set i vv
          rw [← HX.out, set_next X (n - X.length) vv (by have := HX.out; omega)] at this
          rw [← HX.out, show n - (X.length + 1) = n - X.length - 1 by omega]
          exact this
        have HR3 : Hid (Rd (w2.setCell ⟨w.heap.size, i, none⟩ (.int .i64 vv)) x s aa) := HR2.out.other _ _ (by show w.heap.size ≠ x; omega)
        have HS3 : Hid (Stays (only x) w (w2.setCell ⟨w.heap.size, i, none⟩ (.int .i64 vv))) := HS2.out.setCell _ _ (Or.inr (Nat.le_refl _))
        generalize (X ++ List.replicate (n - i) 0).getD i 0 = old at *
        clear HB2 HR2 HS2
        go_wp2_with fail
        go_roundw
        case rel => exact ⟨i + 1, aa, X ++ [vv], by omega, by go_num, HN.out, HR3.out, HB3.out, HS3.out⟩
        case measure => simp [intOf]; omega
      · have HN : Hid (rdAll s 0 v n a = none) := rdAll_none n (rdAll_stop hra (by rw [q1]; exact hE)) (by omega)
        have hEb : (sgnE s ai v != 0) = true := by rw [bne_iff_ne]; exact hE
        clear hE hra hrd hbk hst hxl q1 q2 q3 hal HBK
        generalize sgnV s ai v = vv at *
        generalize sgnE s ai v = ee at *
        go_wp2_with fail
        refine ks.mono ?_
        rintro e w2 ⟨rfl, h2, h3⟩
        have HS2 : Hid (Stays (only x) w w2) := HS.out.trans h3 (fun _ _ h => h)
        clear ks h2 h3 HS
        go_wp2_with fail
        go_ret2
        exact ⟨HS2.out, OPost.none_ HN.out rfl⟩
    · have hin : i = n := by omega
      subst hin
      have HF : Hid (rdAll s 0 v i a = some (X, ai) ∧ RowS w.heap.size (some ⟨w.heap.size, 0, none⟩) i X wr ∧ Rd wr x s ai ∧ Stays (only x) w wr ∧ X.length = i) := by
        rw [Nat.sub_self, List.replicate_zero, List.append_nil] at hbk
        exact ⟨hra, RowS.of_blk hbk (Nat.le_refl _) (by omega) (by omega) (rdAll_rng (by omega) (by omega) hra), hrd, hst, hxl⟩
      clear hra hrd hbk hst hxl q1 q2 q3 HS HBK
      go_wp2_with fail
      go_ret2
      exact ⟨HF.out.2.2.2.1, OPost.some_ HF.out.1 ⟨_, _, by rw [HF.out.2.2.2.2]; rfl, HF.out.2.1, HF.out.2.2.1⟩⟩

end Go.Proofs.Ytkhdkmdiblomhaa

namespace Go.Proofs.Ytkhdkmdiblomhaa
open Go.RowKit
set_option linter.unusedSimpArgs false
set_option linter.unusedVariables false

def foreR (q : Sb) (W R : List Int) : Option (List Int) := if q.k = 2 then unfR q.o W R else unlR q.C q.h W R
def XG (x g : Nat) : Nat → Prop := fun i => i = x ∨ i = g
theorem only_s2 {x g : Nat} {w w' : World} (h : Stays (only x) w w') : Stays (XG x g) w w' := h.mono (fun i _ hi => Or.inl hi)
theorem Stays.s2 {x g : Nat} {a b c : World} (h : Stays (XG x g) a b) (k : Stays (only x) b c) : Stays (XG x g) a c := h.trans k (fun i _ hi => Or.inl hi)
theorem Stays.s2b {x g : Nat} {a b c : World} (h : Stays (XG x g) a b) (k : Below b.heap.size b c) : Stays (XG x g) a c := h.trans (Stays.of_below k (XG x g)) (fun i _ hi => hi)
theorem IntsBlk.keep {w w' : World} {g : Nat} {L : List Int} (h : IntsBlk w g L) (hb : w'.heap[g]? = w.heap[g]?) : IntsBlk w' g L := by unfold IntsBlk; rw [hb]; exact h
set_option maxRecDepth 20000 in
set_option maxHeartbeats 3200000 in
theorem s_fore (q : Sb) (ca : Option Addr) (cc : Nat) (pa : Option Addr) (pc : Nat) (ea : Option Addr) (ec : Nat) (W R : List Int) (wa ra : Option Addr) (wc rc : Nat) (hr9 : R.length ≤ 17592186043904) (L : List Int) (hL : foreR q W R = some L) (w : World) (hC : IntsAt w ca q.C) (hW : IntsAt w wa W) (hR : IntsAt w ra R) : Calls Try.prog 69 #[subV q ca cc pa pc ea ec, .slice wa W.length wc, .slice ra R.length rc] w fun e w' => ∃ la lc, e = .returned (.tuple #[.slice la L.length lc, .int .i64 0]) ∧ Made w la lc L w' := by
  have HA : Hid (SX w q ca cc pa pc ea ec (w.alloc (.cells (subC q ca cc pa pc ea ec) 26))) := SX.new w q ca cc pa pc ea ec
  by_cases k2 : q.k = 2
  · skip
    have hbk : (q.k == 2) = true := by rw [beq_iff_eq]; exact k2
    have HK : Hid (∀ wx, Below w.heap.size w wx → Calls Try.prog 88 #[.int .i64 q.o, .slice wa W.length wc, .slice ra R.length rc] wx fun e w' => ∃ la lc, e = .returned (.tuple #[.slice la L.length lc, .int .i64 0]) ∧ Made wx la lc L w') := fun wx hb => by
      have h := qunfixed_spec q.o W R wa ra wc rc hr9 wx (hW.below hb) (hR.below hb)
      unfold foreR at hL
      rw [if_pos k2] at hL
      rw [hL] at h
      exact h
    clear hL hC hW hR k2
    go_enter Try.func69, Try.ntmps69
    go_upto_region 1 with fail
    generalize hwa : World.alloc _ _ = wb at *
    clear hwa
    obtain ⟨x0, x1, x2, x3, x4, x5, x6, x7, x8, x9⟩ := sub_cells HA.out.box
    go_wp2_with fail
    refine (HK.out _ HA.out.below).mono ?_
    rintro e w2 ⟨la, lc, rfl, hmd⟩
    have HM : Hid (Made w la lc L w2) := hmd.up HA.out.below
    clear hmd x0 x1 x2 x3 x4 x5 x6 x7 x8 x9
    go_wp2_with fail
    go_ret2
    exact ⟨_, _, rfl, HM.out⟩
  · skip
    have hbk : (q.k == 2) = false := by rw [beq_eq_false_iff_ne]; exact k2
    have HK : Hid (∀ wx, Below w.heap.size w wx → Calls Try.prog 89 #[.slice ca q.C.length cc, .int .i64 q.h, .slice wa W.length wc, .slice ra R.length rc] wx fun e w' => ∃ la lc, e = .returned (.tuple #[.slice la L.length lc, .int .i64 0]) ∧ Made wx la lc L w') := fun wx hb => by
      have h := qunlpc_spec q.C W R q.h ca wa ra cc wc rc hr9 wx (hC.below hb) (hW.below hb) (hR.below hb)
      unfold foreR at hL
      rw [if_neg k2] at hL
      rw [hL] at h
      exact h
    clear hL hC hW hR k2
    go_enter Try.func69, Try.ntmps69
    go_upto_region 1 with fail
    generalize hwa : World.alloc _ _ = wb at *
    clear hwa
    obtain ⟨x0, x1, x2, x3, x4, x5, x6, x7, x8, x9⟩ := sub_cells HA.out.box
    go_wp2_with fail
    refine (HK.out _ HA.out.below).mono ?_
    rintro e w2 ⟨la, lc, rfl, hmd⟩
    have HM : Hid (Made w la lc L w2) := hmd.up HA.out.below
    clear hmd x0 x1 x2 x3 x4 x5 x6 x7 x8 x9
    go_wp2_with fail
    go_ret2
    exact ⟨_, _, rfl, HM.out⟩
theorem rc_at {c : Rc} {b r : Int} {w : World} {gp ge : Nat} (h : chkOk c b r) (hp : IntsBlk w gp c.P) (he : IntsBlk w ge c.E) : RcAt w c (some ⟨gp, 0, none⟩) (some ⟨ge, 0, none⟩) := by
  obtain ⟨h1, h2, h3, h4, h5⟩ := h
  have h15 := pow15 c.o.toNat (by omega)
  have hall : ∀ (X : List Int), (∀ i, i < X.length → -9223372036854775808 ≤ X.getD i 0 ∧ X.getD i 0 ≤ 9223372036854775807) → Rng X := fun X hh n hn => by
    obtain ⟨j, hj, rfl⟩ := List.getElem_of_mem hn
    have := hh j hj
    rw [List.getD_eq_getElem?_getD, List.getElem?_eq_getElem hj] at this
    exact this
  refine ⟨hp.ints (by omega) (hall _ (fun i hi => ?_)), he.ints (by omega) (hall _ (fun i hi => ?_)), by omega, by omega, by omega, by omega⟩
  · have := h5 i (by omega)
    unfold mayOk at this
    omega
  · have := h5 i (by omega)
    unfold mayOk at this
    omega
theorem set4at {wx : World} (n : Nat) (v6 v7 v8 v9 : Value) {a0 a1 a2 a3 a4 a5 a6 a7 a8 a9 : Value} {t : TypeId} (h : wx.heap[n]? = some (.cells #[a0, a1, a2, a3, a4, a5, a6, a7, a8, a9] t (0, 0))) : ((((wx.setCell ⟨n, 6, none⟩ v6).setCell ⟨n, 7, none⟩ v7).setCell ⟨n, 8, none⟩ v8).setCell ⟨n, 9, none⟩ v9).heap[n]? = some (.cells #[a0, a1, a2, a3, a4, a5, v6, v7, v8, v9] t (0, 0)) := by
  rw [block_setCell _ _ _ _ _ _ (block_setCell _ _ _ _ _ _ (block_setCell _ _ _ _ _ _ (block_setCell _ _ _ _ _ _ h)))]
  simp only [List.setIfInBounds_toArray, List.set_cons_zero, List.set_cons_succ]
theorem set4at_c {wx : World} (n : Nat) (v6 v7 v8 v9 : Value) (w : World) (S : Nat → Prop) (hn : S n ∨ w.heap.size ≤ n) (h : Stays S w wx) : Stays S w ((((wx.setCell ⟨n, 6, none⟩ v6).setCell ⟨n, 7, none⟩ v7).setCell ⟨n, 8, none⟩ v8).setCell ⟨n, 9, none⟩ v9) :=
  (((h.setCell _ _ hn).setCell _ _ hn).setCell _ _ hn).setCell _ _ hn
theorem set4at_d {wx : World} (n : Nat) (v6 v7 v8 v9 : Value) (j : Nat) (h0 : j ≠ n) : ((((wx.setCell ⟨n, 6, none⟩ v6).setCell ⟨n, 7, none⟩ v7).setCell ⟨n, 8, none⟩ v8).setCell ⟨n, 9, none⟩ v9).heap[j]? = wx.heap[j]? := by
  rw [Below.heap_setCell _ _ _ j h0, Below.heap_setCell _ _ _ j h0, Below.heap_setCell _ _ _ j h0, Below.heap_setCell _ _ _ j h0]
set_option maxRecDepth 20000 in
set_option maxHeartbeats 3200000 in
theorem s_rest (x : Nat) (s : ByteArray) (hs : s.size ≤ 1000000000000000000) (a : Nat) (ha : a ≤ 8 * s.size) (b : Int) (g : Nat) (k o sw p h : Int) (C : List Int) (ca : Option Addr) (cc : Nat) (W : List Int) (fa : Option Addr) (fc : Nat) (D : List Int)
    (hargs : argOk b o) (hb : b ≤ 65535) (hfore : ∀ c R, foreR ⟨k, o, sw, p, h, C, c⟩ W R = some (wholeN D h.toNat W R R.length)) (w : World) (hrd : Rd w x s a) (hbx : w.heap[g]? = some (.cells (subC ⟨k, o, sw, p, h, C, R0⟩ ca cc none 0 none 0) 26 (0, 0))) (hC : IntsAt w ca C) (hW : IntsAt w fa W) (hxg : x ≠ g) (hCx : ∀ bb, blockOf ca = some bb → bb ≠ x ∧ bb ≠ g) (hWx : ∀ bb, blockOf fa = some bb → bb ≠ x ∧ bb ≠ g) :
    Calls Try.prog 47 #[.pointer (some ⟨x, 0, none⟩), .pointer (some ⟨g, 0, none⟩), .int .i64 b, .slice fa W.length fc] w fun e w' => Stays (XG x g) w w' ∧ OPost (decP s a b o) (e = .returned (.tuple #[.slice none 0 0, .bool false])) (fun r => ∃ la lc gp ge, e = .returned (.tuple #[.slice la (wholeN D h.toNat W r.2.1 r.2.1.length).length lc, .bool true]) ∧ RowS w.heap.size la lc (wholeN D h.toNat W r.2.1 r.2.1.length) w' ∧ w'.heap[g]? = some (.cells (subC ⟨k, o, sw, p, h, C, r.1⟩ ca cc (some ⟨gp, 0, none⟩) r.1.P.length (some ⟨ge, 0, none⟩) r.1.E.length) 26 (0, 0)) ∧ RcAt w' r.1 (some ⟨gp, 0, none⟩) (some ⟨ge, 0, none⟩) ∧ w.heap.size ≤ gp ∧ w.heap.size ≤ ge ∧ Rd w' x s r.2.2 ∧ ∀ bb, blockOf la = some bb → gp < bb ∧ ge < bb ∧ w.heap.size ≤ bb) := by
  have kd := decode_all x s hs a ha b o hargs w hrd
  have hgw := lt_of_block hbx
  have HBX : Hid (w.heap[g]? = some (.cells (subC ⟨k, o, sw, p, h, C, R0⟩ ca cc none 0 none 0) 26 (0, 0))) := hbx
  have HCW : Hid (∀ wx, Stays (XG x g) w wx → IntsAt wx ca C ∧ IntsAt wx fa W) := fun wx hh => ⟨hC.stays hh (fun bb hb2 hS => by rcases hS with e | e; exact (hCx bb hb2).1 e; exact (hCx bb hb2).2 e), hW.stays hh (fun bb hb2 hS => by rcases hS with e | e; exact (hWx bb hb2).1 e; exact (hWx bb hb2).2 e)⟩
  obtain ⟨x0, x1, x2, x3, x4, x5, x6, x7, x8, x9⟩ := sub_cells hbx
  clear hrd hbx hC hW hCx hWx
  cases hR : decP s a b o with
  | none =>
    rw [hR] at kd
    clear hR
    go_enter Try.func47, Try.ntmps47
    go_wp2_with fail
    refine kd.mono ?_
    rintro e w2 ⟨rfl, hst⟩
    have HS2 : Hid (Stays (XG x g) w w2) := only_s2 hst
    have HSA : Hid (∀ ob, Stays (XG x g) w (w2.alloc ob)) := fun ob => HS2.out.s2b ((Below.refl _ _).alloc (Nat.le_refl _) _)
    clear kd hst x0 x1 x2 x3 x4 x5 x6 x7 x8 x9
    go_wp2_with fail
    go_ret2
    exact ⟨HSA.out _, rfl⟩
  | some r =>
    obtain ⟨c, R, a2⟩ := r
    rw [hR] at kd
    have hda := dec_again hR
    have hch := encR_chk hda.1
    have hln := encR_len hda.1
    have HRN : Hid (Rng R) := encR_rng hda.1
    have HCH : Hid (chkOk c b o) := hch
    have hR9 : R.length ≤ 65535 := by unfold argOk at hargs; omega
    have KF : Hid (∀ wx, IntsAt wx ca C → IntsAt wx fa W → ∀ gl gp ge, IntsBlk wx gl R → Calls Try.prog 69 #[subV ⟨k, o, sw, p, h, C, c⟩ ca cc (some ⟨gp, 0, none⟩) c.P.length (some ⟨ge, 0, none⟩) c.E.length, .slice fa W.length fc, .slice (some ⟨gl, 0, none⟩) R.length R.length] wx fun e w' => ∃ la lc, e = .returned (.tuple #[.slice la (wholeN D h.toNat W R R.length).length lc, .int .i64 0]) ∧ Made wx la lc (wholeN D h.toNat W R R.length) w') := fun wx h1 h2 gl gp ge h3 =>
      s_fore ⟨k, o, sw, p, h, C, c⟩ ca cc (some ⟨gp, 0, none⟩) c.P.length (some ⟨ge, 0, none⟩) c.E.length W R fa (some ⟨gl, 0, none⟩) fc R.length (by omega) _ (hfore c R) wx h1 h2 (h3.ints (by omega) HRN.out)
    clear hR hda hch hln hfore HRN
    obtain ⟨L, hLe⟩ : ∃ L, L = wholeN D h.toNat W R R.length := ⟨_, rfl⟩
    rw [← hLe] at KF
    have HLE : Hid (L = wholeN D h.toNat W R R.length) := hLe
    clear hLe
    go_enter Try.func47, Try.ntmps47
    go_wp2_with fail
    refine kd.mono ?_
    rintro e w2 ⟨gl, gp, ge, rfl, hgl, hgp, hge, hl1, hp1, he1, hr2, ha2, hst⟩
    have hbg2 : w2.heap[g]? = some (.cells (subC ⟨k, o, sw, p, h, C, R0⟩ ca cc none 0 none 0) 26 (0, 0)) := by rw [hst.block _ hgw (fun e => hxg (Eq.symm e))]; exact HBX.out
    have hbl : Below w2.heap.size w2 (w2.alloc (.cells (riceC c (some ⟨gp, 0, none⟩) c.P.length (some ⟨ge, 0, none⟩) c.E.length) 24)) := (Below.refl _ _).alloc (Nat.le_refl _) _
    have hg2 : g < w2.heap.size := lt_of_block hbg2
    have HX3 : Hid ((w2.alloc (.cells (riceC c (some ⟨gp, 0, none⟩) c.P.length (some ⟨ge, 0, none⟩) c.E.length) 24)).heap[g]? = some (.cells (subC ⟨k, o, sw, p, h, C, R0⟩ ca cc none 0 none 0) 26 (0, 0)) ∧ IntsBlk (w2.alloc (.cells (riceC c (some ⟨gp, 0, none⟩) c.P.length (some ⟨ge, 0, none⟩) c.E.length) 24)) gl R ∧ IntsBlk (w2.alloc (.cells (riceC c (some ⟨gp, 0, none⟩) c.P.length (some ⟨ge, 0, none⟩) c.E.length) 24)) gp c.P ∧ IntsBlk (w2.alloc (.cells (riceC c (some ⟨gp, 0, none⟩) c.P.length (some ⟨ge, 0, none⟩) c.E.length) 24)) ge c.E ∧ Rd (w2.alloc (.cells (riceC c (some ⟨gp, 0, none⟩) c.P.length (some ⟨ge, 0, none⟩) c.E.length) 24)) x s a2 ∧ Stays (XG x g) w (w2.alloc (.cells (riceC c (some ⟨gp, 0, none⟩) c.P.length (some ⟨ge, 0, none⟩) c.E.length) 24)) ∧ (w2.alloc (.cells (riceC c (some ⟨gp, 0, none⟩) c.P.length (some ⟨ge, 0, none⟩) c.E.length) 24)).heap[w2.heap.size]? = some (.cells (riceC c (some ⟨gp, 0, none⟩) c.P.length (some ⟨ge, 0, none⟩) c.E.length) 24 (0, 0))) :=
      ⟨by rw [hbl.block _ hg2]; exact hbg2, hgl.below hbl, hgp.below hbl, hge.below hbl, hr2.below hbl, (only_s2 hst).s2b hbl, heap_alloc_new _ _⟩
    have HGE : Hid (w.heap.size ≤ gl ∧ w.heap.size ≤ gp ∧ w.heap.size ≤ ge) := ⟨hl1, hp1, he1⟩
    have hgn : ¬ g = w2.heap.size := by omega
    have hgn2 : ¬ w2.heap.size = g := by omega
    clear kd hgl hgp hge hr2 ha2 hst hbg2 hbl hl1 hp1 he1 x0 x1 x2 x3 x4 x5 x6 x7 x8 x9 HBX
    go_upto_region 2 with fail
    generalize hwb : World.alloc _ _ = w3 at *
    clear hwb
    generalize w2.heap.size = g2 at *
    have hb3g := HX3.out.1
    obtain ⟨y0, y1, y2, y3⟩ := rice_cells HX3.out.2.2.2.2.2.2
    obtain ⟨x0, x1, x2, x3, x4, x5, x6, x7, x8, x9⟩ := sub_cells hb3g
    have fx6 := row_frozen hb3g 6
    have fx7 := row_frozen hb3g 7
    have fx8 := row_frozen hb3g 8
    have fx9 := row_frozen hb3g 9
    clear hb3g
    go_upto_region 5 with fail
    generalize hwc : World.setCell _ _ _ = w4 at *
    have hH4 : w4.heap[g]? = some (.cells (subC ⟨k, o, sw, p, h, C, c⟩ ca cc (some ⟨gp, 0, none⟩) c.P.length (some ⟨ge, 0, none⟩) c.E.length) 26 (0, 0)) := by rw [← hwc]; exact set4at _ _ _ _ _ HX3.out.1
    have hS4 : Stays (XG x g) w w4 := by rw [← hwc]; exact set4at_c _ _ _ _ _ _ _ (Or.inl (Or.inr rfl)) HX3.out.2.2.2.2.2.1
    have hj : ∀ j, j ≠ g → w4.heap[j]? = w3.heap[j]? := fun j h0 => by rw [← hwc]; exact set4at_d _ _ _ _ _ j h0
    have HX4 : Hid (w4.heap[g]? = some (.cells (subC ⟨k, o, sw, p, h, C, c⟩ ca cc (some ⟨gp, 0, none⟩) c.P.length (some ⟨ge, 0, none⟩) c.E.length) 26 (0, 0)) ∧ IntsBlk w4 gl R ∧ IntsBlk w4 gp c.P ∧ IntsBlk w4 ge c.E ∧ Rd w4 x s a2 ∧ Stays (XG x g) w w4) := by
      obtain ⟨q1, q2, q3⟩ := HGE.out
      refine ⟨hH4, HX3.out.2.1.keep (hj _ (by omega)), HX3.out.2.2.1.keep (hj _ (by omega)), HX3.out.2.2.2.1.keep (hj _ (by omega)), ?_, hS4⟩
      have := HX3.out.2.2.2.2.1
      unfold Rd at this ⊢
      rw [hj x hxg]; exact this
    clear hwc hH4 hS4 hj HX3 x0 x1 x2 x3 x4 x5 x6 x7 x8 x9 y0 y1 y2 y3 fx6 fx7 fx8 fx9
    obtain ⟨x0, x1, x2, x3, x4, x5, x6, x7, x8, x9⟩ := sub_cells HX4.out.1
    have kf := KF.out w4 (HCW.out w4 HX4.out.2.2.2.2.2).1 (HCW.out w4 HX4.out.2.2.2.2.2).2 gl gp ge HX4.out.2.1
    clear KF HCW
    go_wp2_with fail
    refine kf.mono ?_
    rintro e w5 ⟨la, lc, rfl, hmd⟩
    have HF : Hid (Stays (XG x g) w w5 ∧ RowS w.heap.size la lc L w5 ∧ w5.heap[g]? = some (.cells (subC ⟨k, o, sw, p, h, C, c⟩ ca cc (some ⟨gp, 0, none⟩) c.P.length (some ⟨ge, 0, none⟩) c.E.length) 26 (0, 0)) ∧ RcAt w5 c (some ⟨gp, 0, none⟩) (some ⟨ge, 0, none⟩) ∧ w.heap.size ≤ gp ∧ w.heap.size ≤ ge ∧ Rd w5 x s a2 ∧ ∀ bb, blockOf la = some bb → gp < bb ∧ ge < bb ∧ w.heap.size ≤ bb) := by
      have hb5 := hmd.below
      exact ⟨HX4.out.2.2.2.2.2.s2b hb5, hmd.row.mono HX4.out.2.2.2.2.2.size, by rw [hb5.block _ (lt_of_block HX4.out.1)]; exact HX4.out.1, rc_at HCH.out (HX4.out.2.2.1.below hb5) (HX4.out.2.2.2.1.below hb5), HGE.out.2.1, HGE.out.2.2, HX4.out.2.2.2.2.1.below hb5, fun bb hbb => by
        have h1 := hmd.row.fr bb hbb
        have h2 := HX4.out.2.2.1.lt
        have h3 := HX4.out.2.2.2.1.lt
        have h4 := HX4.out.2.2.2.2.2.size
        exact ⟨by omega, by omega, by omega⟩⟩
    clear hmd kf HX4 x0 x1 x2 x3 x4 x5 x6 x7 x8 x9
    go_wp2_with fail
    go_ret2
    have hLe := HLE.out
    subst hLe
    exact ⟨HF.out.1, _, _, gp, ge, rfl, HF.out.2.1, HF.out.2.2.1, HF.out.2.2.2.1, HF.out.2.2.2.2.1, HF.out.2.2.2.2.2.1, HF.out.2.2.2.2.2.2⟩

end Go.Proofs.Ytkhdkmdiblomhaa
