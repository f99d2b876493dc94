/- Own text. -/
import Derived.Test.YtfpfabmbipmipaaGreatDoorB27
set_option linter.unusedSimpArgs false
set_option linter.unusedVariables false
set_option maxRecDepth 20000
set_option maxHeartbeats 12800000
namespace Go.Proofs.YtfpfabmbipmipaaGreatDoor
open Go.RowKit
theorem head_le {s : ByteArray} {a : Nat} {b v k o n : Int} {a1 : Nat} (hv : 1 <= v) (h : rdSHead s a b v = some (k, o, n, a1)) (ha : a <= 8 * s.size) : a1 <= 8 * s.size := by
 obtain ⟨_, _, _, h1, h2⟩ := head10_again hv h
 have h3 := congrArg List.length h1
 rw [List.length_append, List.length_append, ahead_length, ahead_length] at h3
 omega
structure Shl (w0 : World) (gl : Nat) (m : List Int) (k i : Nat) (wr : World) : Prop where
 row : ∃ cs : Array Value, wr.heap[gl]? = some (.cells cs 3 (0, 0)) /\ ∀ j, j < m.length -> cs[j]? = some (.int .i64 (if j < i then wrap64 (m.getD j 0 * 2 ^ k) else m.getD j 0))
 st : Stays (only gl) w0 wr
section
variable {w0 wr : World} {gl : Nat} {m : List Int} {k i : Nat}
theorem Shl.drew (h : Shl w0 gl m k i wr) : Shl w0 gl m k i wr.drew := ⟨h.row, h.st.drew⟩
theorem Shl.cell (h : Shl w0 gl m k i wr) (hi : i < m.length) : wr.cell? ⟨gl, i, none⟩ = some (.int .i64 (m.getD i 0)) := by
 obtain ⟨cs, h1, h2⟩ := h.row
 rw [cell_row h1, h2 i hi, if_neg (Nat.lt_irrefl i)]
theorem Shl.frozen (h : Shl w0 gl m k i wr) (j : Nat) : wr.frozen? ⟨gl, j, none⟩ = false := by
 obtain ⟨cs, h1, _⟩ := h.row
 exact row_frozen h1 j
theorem Shl.set (h : Shl w0 gl m k i wr) (hi : i < m.length) : Shl w0 gl m k (i + 1) (wr.setCell ⟨gl, i, none⟩ (.int .i64 (wrap64 (m.getD i 0 * 2 ^ k)))) := by
 obtain ⟨cs, h1, h2⟩ := h.row
 refine ⟨⟨cs.setIfInBounds i (.int .i64 (wrap64 (m.getD i 0 * 2 ^ k))), heap_setCell_same _ _ _ _ _ _ h1, fun j hj => ?_⟩, h.st.setCell _ _ (Or.inl rfl)⟩
 rw [Array.getElem?_setIfInBounds]
 by_cases e : i = j
 ·subst e
  have hlt : i < cs.size := by
   rcases Nat.lt_or_ge i cs.size with h3 | h3
   ·exact h3
   ·have := h2 i hi; rw [Array.getElem?_eq_none h3] at this; cases this
  rw [if_pos rfl, if_pos hlt, if_pos (by omega)]
 ·rw [if_neg e, h2 j hj]
  by_cases e2 : j < i
  ·rw [if_pos e2, if_pos (by omega)]
  ·rw [if_neg e2, if_neg (by omega)]
theorem Shl.box (h : Shl w0 gl m k i wr) {g : Nat} {o : Obj} (hg : w0.heap[g]? = some o) (hn : g ≠ gl) : wr.heap[g]? = some o := by
 rw [h.st.block _ (lt_of_block hg) hn]; exact hg
end
theorem Shl.start {n : Nat} {gl cap : Nat} {m : List Int} {w0 : World} (h : RowS n (some ⟨gl, 0, none⟩) cap m w0) (k : Nat) : Shl w0 gl m k 0 w0 := by
 obtain ⟨g, e, _, cs, h1, h2⟩ := h.at_
 cases e
 exact ⟨⟨cs, h1, fun j hj => by rw [if_neg (Nat.not_lt_zero j)]; exact h2 j hj⟩, Stays.refl _ _⟩
theorem Shl.row_end {n : Nat} {gl cap : Nat} {m : List Int} {w0 wr : World} {k : Nat} (h : Shl w0 gl m k m.length wr) (hg : n <= gl) (hc : m.length <= cap) (hl : m.length <= 17592186044415) : RowS n (some ⟨gl, 0, none⟩) cap (shlL m k) wr := by
 obtain ⟨cs, h1, h2⟩ := h.row
 have hsl := shl_len m k
 refine ⟨⟨gl, rfl, hg, cs, h1, fun j hj => ?_⟩, by omega, by omega, fun x hx => ?_⟩
 ·rw [h2 j (by omega), if_pos (by omega), getD_shl]
 ·obtain ⟨y, _, rfl⟩ := List.mem_map.1 hx
  exact wrap_rng _
theorem dec_arg10 (x : Nat) (b v : Int) (w : World) (hno : ¬ ((1 <= b /\ b <= 65535) /\ (1 <= v /\ v <= 33))) : Calls Tryz.prog 102 #[.pointer (some ⟨x, 0, none⟩), .int .i64 b, .int .i64 v] w fun e w' => e = .returned (.tuple #[.slice none 0 0, subV S0 none 0 none 0 none 0, .int .i64 1]) /\ Lo w w' := by
 have KA : Hid (∀ wx, G0 133 #[.int .i64 b, .int .i64 v] wx (.bool false)) := fun wx => s_areOf b v false (ff_iff hno) wx
 clear hno
 go_enter Tryz.func102, Tryz.ntmps102
 go_wp2_with (go_at_call 133; refine (KA.out _).mono ?_; rintro e w' ⟨rfl, rfl⟩)
 generalize hwf : World.alloc _ _ = wf
 have hH : wf.heap[w.heap.size]? = some (.cells (subC ⟨0, 0, 0, 0, 0, [], R0⟩ none 0 none 0 none 0) 67 (0, 0)) := by rw [<- hwf]; exact heap_alloc_new _ _
 have hS : Lo w wf := by rw [<- hwf]; exact aQ
 refine bodyPost_ret (v := .tuple #[.slice none 0 0, .agg (subC ⟨0, 0, 0, 0, 0, [], R0⟩ none 0 none 0 none 0), .int .i64 1]) ?_ rfl ⟨rfl, hS⟩
 rw [results_mid rfl]
 have hl0 := run_loadVar_row (P := Tryz.prog) (wf) (w.heap.size) 67 67 (subC ⟨0, 0, 0, 0, 0, [], R0⟩ none 0 none 0 none 0) (0, 0) _ hH Tryz.underlying67 rfl info_Sub
 simp [asAddr, Result.andThen, hl0]
theorem sub_again_rng {s : ByteArray} {a : Nat} {b v k o n : Int} {a1 : Nat} {d : Bd} (hb : 1 <= b /\ b <= 65535) (hv : 1 <= v /\ v <= 33) (hhd : rdSHead s a b v = some (k, o, n, a1)) (hbd : rdSBody s a1 b (v - n) k o = some d) : I64 k /\ I64 o /\ I64 d.p /\ I64 d.h := by
 obtain ⟨h1, h2, h3, _⟩ := head10_again hv.1 hhd
 have hk := (body_again (w := n) h1 hb.1 h2 h3.1 (by omega) hbd).1
 unfold kinds at h1
 refine ⟨by unfold I64; omega, by unfold I64; omega, ?_, ?_⟩
 ·rcases hk with h | h | h
  ·have e : d.p = 0 := h.2.1.1
   unfold I64; omega
  ·have e : d.p = 0 := h.2.1.1
   unfold I64; omega
  ·have e1 : 1 <= d.p := h.2.2.2.2.1
   have e2 : d.p <= 15 := h.2.2.2.2.2.1
   unfold I64; omega
 ·rcases hk with h | h | h
  ·have e : d.h = 0 := h.2.1.2.1
   unfold I64; omega
  ·have e : d.h = 0 := h.2.1.2.1
   unfold I64; omega
  ·have e1 : 0 <= d.h := h.2.2.2.2.2.2.1
   have e2 : d.h <= 15 := h.2.2.2.2.2.2.2.1
   unfold I64; omega
theorem grp6 : (∀ (x : Nat) (s : ByteArray) (hs : s.size <= 1000000000000000000) (a : Nat) (ha : a <= 8 * s.size) (b v : Int) (hb : 1 <= b /\ b <= 65535) (hv : 1 <= v /\ v <= 33) (w : World) (hrd : Rd w x s a) (hno : rdSHead s a b v = none), Calls Tryz.prog 102 #[.pointer (some ⟨x, 0, none⟩), .int .i64 b, .int .i64 v] w fun e w' => e = .returned (.tuple #[.slice none 0 0, subV S0 none 0 none 0 none 0, .int .i64 2]) /\ Stays (only x) w w') /\ (∀ (x : Nat) (s : ByteArray) (hs : s.size <= 1000000000000000000) (a : Nat) (ha : a <= 8 * s.size) (b v : Int) (hb : 1 <= b /\ b <= 65535) (hv : 1 <= v /\ v <= 33) (w : World) (hrd : Rd w x s a) (k o n : Int) (a1 : Nat) (hhd : rdSHead s a b v = some (k, o, n, a1)) (hno : rdSBody s a1 b (v - n) k o = none), Calls Tryz.prog 102 #[.pointer (some ⟨x, 0, none⟩), .int .i64 b, .int .i64 v] w fun e w' => e = .returned (.tuple #[.slice none 0 0, subV S0 none 0 none 0 none 0, .int .i64 2]) /\ Stays (only x) w w') /\ (∀ (x : Nat) (s : ByteArray) (hs : s.size <= 1000000000000000000) (a : Nat) (ha : a <= 8 * s.size) (b v : Int) (hb : 1 <= b /\ b <= 65535) (hv : 1 <= v /\ v <= 33) (w : World) (hrd : Rd w x s a) (k o n : Int) (a1 : Nat) (hhd : rdSHead s a b v = some (k, o, n, a1)) (d : Bd) (hbd : rdSBody s a1 b (v - n) k o = some d) (hall : ¬ ∀ y ∈ d.m, sigE y (v - n) = 0), Calls Tryz.prog 102 #[.pointer (some ⟨x, 0, none⟩), .int .i64 b, .int .i64 v] w fun e w' => e = .returned (.tuple #[.slice none 0 0, subV S0 none 0 none 0 none 0, .int .i64 2]) /\ Stays (only x) w w') /\ (∀ (x : Nat) (s : ByteArray) (hs : s.size <= 1000000000000000000) (a : Nat) (ha : a <= 8 * s.size) (b v : Int) (hb : 1 <= b /\ b <= 65535) (hv : 1 <= v /\ v <= 33) (w : World) (hrd : Rd w x s a) (k o n : Int) (a1 : Nat) (hhd : rdSHead s a b v = some (k, o, n, a1)) (d : Bd) (hbd : rdSBody s a1 b (v - n) k o = some d) (hall : ∀ y ∈ d.m, sigE y (v - n) = 0), Calls Tryz.prog 102 #[.pointer (some ⟨x, 0, none⟩), .int .i64 b, .int .i64 v] w fun e w' => ∃ la lc ca cc pa pc ea ec, e = .returned (.tuple #[.slice la (shlL d.m n.toNat).length lc, subV ⟨k, o, n, d.p, d.h, d.C, d.R⟩ ca cc pa pc ea ec, .int .i64 0]) /\ RowS w.heap.size la lc (shlL d.m n.toNat) w' /\ SbAt w' ⟨k, o, n, d.p, d.h, d.C, d.R⟩ ca pa ea /\ (d.C.length <= cc /\ (ca = none -> cc = 0)) /\ (Fr w.heap.size ca /\ Fr w.heap.size pa /\ Fr w.heap.size ea) /\ Rd w' x s d.a /\ Stays (only x) w w') := by
 refine ⟨?_, ?_, ?_, ?_⟩
 ·intro x s hs a ha b v hb hv w hrd hno
  have hxw : x < w.heap.size := lt_of_block hrd
  have KA : Hid (∀ wx, G0 133 #[.int .i64 b, .int .i64 v] wx (.bool true)) := fun wx => s_areOf b v true (tt_iff ⟨hb, hv⟩) wx
  have H0 : Hid (HDS w x s a (w.alloc (.cells (subC ⟨0, 0, 0, 0, 0, [], R0⟩ none 0 none 0 none 0) 67))) := HDS.start hrd
  have kh0 := fun wx hh => s_rhead x s hs a ha b v hb.1 hv.1 wx hh
  clear hrd
  have KH : Hid (∀ wx, Rd wx x s a -> Calls Tryz.prog 140 #[.pointer (some ⟨x, 0, none⟩), .int .i64 b, .int .i64 v] wx fun e w' => Stays (only x) wx w' /\ ∃ k o n, e = .returned (.tuple #[subV ⟨k, o, n, 0, 0, [], R0⟩ none 0 none 0 none 0, .bool false])) := fun wx hh => (kh0 wx hh).mono fun e w' h => by
   obtain ⟨h1, h2⟩ := h
   rw [hno] at h2
   exact ⟨h1, h2⟩
  clear kh0 hno
  go_enter Tryz.func102, Tryz.ntmps102
  go_upto_region 1 with fail
  generalize World.alloc _ _ = wa at *
  go_wp2_with fail
  refine (KA.out _).mono ?_
  rintro e wy ⟨rfl, hwy⟩
  subst hwy
  clear KA
  have kh := KH.out _ H0.out.rd
  go_wp2_with fail
  refine kh.mono ?_
  rintro e w1 ⟨hst, k, o, n, rfl⟩
  have HZ : Hid (∀ ob, (w1.alloc ob).heap[w.heap.size]? = some (.cells (subC ⟨0, 0, 0, 0, 0, [], R0⟩ none 0 none 0 none 0) 67 (0, 0)) /\ Stays (only x) w (w1.alloc ob)) := fun ob => by
   have h1 : w1.heap[w.heap.size]? = some (.cells (subC ⟨0, 0, 0, 0, 0, [], R0⟩ none 0 none 0 none 0) 67 (0, 0)) := by rw [hst.block _ (lt_of_block H0.out.zb) (fun e => by have h3 : w.heap.size = x := e; omega)]; exact H0.out.zb
   have hbl : Lo w1 (w1.alloc ob) := aQ
   exact ⟨by rw [hbl.block _ (lt_of_block h1)]; exact h1, (H0.out.st.trans hst (fun _ _ h => h)).trans (Stays.of_below hbl (only x)) (fun _ _ h => h)⟩
  clear kh hst H0
  go_upto_region 4 with fail
  generalize hwb : World.alloc _ _ = wb at *
  have HZB : Hid (wb.heap[w.heap.size]? = some (.cells (subC ⟨0, 0, 0, 0, 0, [], R0⟩ none 0 none 0 none 0) 67 (0, 0)) /\ Stays (only x) w wb) := by rw [<- hwb]; exact HZ.out _
  clear HZ hwb
  obtain ⟨x0, x1, x2, x3, x4, x5, x6, x7, x8, x9⟩ := sub_cells HZB.out.1
  have fu0 := row_frozen HZB.out.1 0
  have fu1 := row_frozen HZB.out.1 1
  have fu2 := row_frozen HZB.out.1 2
  have fu3 := row_frozen HZB.out.1 3
  have fu4 := row_frozen HZB.out.1 4
  have fu5 := row_frozen HZB.out.1 5
  have fu6 := row_frozen HZB.out.1 6
  have fu7 := row_frozen HZB.out.1 7
  have fu8 := row_frozen HZB.out.1 8
  have fu9 := row_frozen HZB.out.1 9
  go_wp2_with fail
  generalize hwf : World.setCell _ _ _ = wf
  have hH : wf.heap[w.heap.size]? = some (.cells (subC ⟨0, 0, 0, 0, 0, [], R0⟩ none 0 none 0 none 0) 67 (0, 0)) := by rw [<- hwf]; exact set10_a _ _ _ _ _ _ _ _ _ _ _ HZB.out.1
  have hS : Stays (only x) w wf := by rw [<- hwf]; exact set10_c _ _ _ _ _ _ _ _ _ _ _ _ _ (Or.inr (Nat.le_refl _)) HZB.out.2
  refine bodyPost_ret (v := .tuple #[.slice none 0 0, .agg (subC ⟨0, 0, 0, 0, 0, [], R0⟩ none 0 none 0 none 0), .int .i64 2]) ?_ rfl ⟨rfl, hS⟩
  rw [results_mid rfl]
  have hl0 := run_loadVar_row (P := Tryz.prog) (wf) (w.heap.size) 67 67 (subC ⟨0, 0, 0, 0, 0, [], R0⟩ none 0 none 0 none 0) (0, 0) _ hH Tryz.underlying67 rfl info_Sub
  simp [asAddr, Result.andThen, hl0]
 focus
  intro x s hs a ha b v hb hv w hrd k o n a1 hhd hno
  have hxw : x < w.heap.size := lt_of_block hrd
  have KA : Hid (∀ wx, G0 133 #[.int .i64 b, .int .i64 v] wx (.bool true)) := fun wx => s_areOf b v true (tt_iff ⟨hb, hv⟩) wx
  have H0 : Hid (HDS w x s a (w.alloc (.cells (subC ⟨0, 0, 0, 0, 0, [], R0⟩ none 0 none 0 none 0) 67))) := HDS.start hrd
  have kh0 := fun wx hh => s_rhead x s hs a ha b v hb.1 hv.1 wx hh
  clear hrd
  have hha := head10_again hv.1 hhd
  have hal := head_le hv.1 hhd ha
  have hn0 : 0 <= n /\ n < v := hha.2.2.1
  have KH : Hid (∀ wx, Rd wx x s a -> Calls Tryz.prog 140 #[.pointer (some ⟨x, 0, none⟩), .int .i64 b, .int .i64 v] wx fun e w' => Stays (only x) wx w' /\ e = .returned (.tuple #[subV ⟨k, o, n, 0, 0, [], R0⟩ none 0 none 0 none 0, .bool true]) /\ Rd w' x s a1) := fun wx hh => (kh0 wx hh).mono fun e w' h => by
   obtain ⟨h1, h2⟩ := h
   rw [hhd] at h2
   exact ⟨h1, h2⟩
  have kb0 := fun wx g h1 h2 h3 => s_rbody x s hs a1 hal b (v - n) hb.1 hb.2 (by omega) (by omega) g o n k hha.1 hha.2.1 wx h1 h2 h3
  clear kh0 hha hhd
  have KB : Hid (∀ wx g, Rd wx x s a1 -> wx.heap[g]? = some (.cells (subC ⟨k, o, n, 0, 0, [], R0⟩ none 0 none 0 none 0) 67 (0, 0)) -> x ≠ g -> Calls Tryz.prog 141 #[.pointer (some ⟨x, 0, none⟩), .pointer (some ⟨g, 0, none⟩), .int .i64 b, .int .i64 (v - n)] wx fun e w' => Stays (XG x g) wx w' /\ e = .returned (.tuple #[.slice none 0 0, .bool false])) := fun wx g h1 h2 h3 => (kb0 wx g h1 h2 h3).mono fun e w' h => by
   obtain ⟨h1, h2⟩ := h
   rw [hno] at h2
   exact ⟨h1, h2⟩
  clear kb0 hno
 rotate_left
 focus
  intro x s hs a ha b v hb hv w hrd k o n a1 hhd d hbd hall
  have hxw : x < w.heap.size := lt_of_block hrd
  have KA : Hid (∀ wx, G0 133 #[.int .i64 b, .int .i64 v] wx (.bool true)) := fun wx => s_areOf b v true (tt_iff ⟨hb, hv⟩) wx
  have H0 : Hid (HDS w x s a (w.alloc (.cells (subC ⟨0, 0, 0, 0, 0, [], R0⟩ none 0 none 0 none 0) 67))) := HDS.start hrd
  have kh0 := fun wx hh => s_rhead x s hs a ha b v hb.1 hv.1 wx hh
  clear hrd
  have hha := head10_again hv.1 hhd
  have hal := head_le hv.1 hhd ha
  have hn0 : 0 <= n /\ n < v := hha.2.2.1
  have KH : Hid (∀ wx, Rd wx x s a -> Calls Tryz.prog 140 #[.pointer (some ⟨x, 0, none⟩), .int .i64 b, .int .i64 v] wx fun e w' => Stays (only x) wx w' /\ e = .returned (.tuple #[subV ⟨k, o, n, 0, 0, [], R0⟩ none 0 none 0 none 0, .bool true]) /\ Rd w' x s a1) := fun wx hh => (kh0 wx hh).mono fun e w' h => by
   obtain ⟨h1, h2⟩ := h
   rw [hhd] at h2
   exact ⟨h1, h2⟩
  have kb0 := fun wx g h1 h2 h3 => s_rbody x s hs a1 hal b (v - n) hb.1 hb.2 (by omega) (by omega) g o n k hha.1 hha.2.1 wx h1 h2 h3
  clear kh0 hha hhd
  have KB : Hid (∀ wx g, Rd wx x s a1 -> wx.heap[g]? = some (.cells (subC ⟨k, o, n, 0, 0, [], R0⟩ none 0 none 0 none 0) 67 (0, 0)) -> x ≠ g -> Calls Tryz.prog 141 #[.pointer (some ⟨x, 0, none⟩), .pointer (some ⟨g, 0, none⟩), .int .i64 b, .int .i64 (v - n)] wx fun e w' => Stays (XG x g) wx w' /\ ∃ la lc ca cc pa pc ea ec, e = .returned (.tuple #[.slice la d.m.length lc, .bool true]) /\ RowS wx.heap.size la lc d.m w' /\ w'.heap[g]? = some (.cells (subC ⟨k, o, n, d.p, d.h, d.C, d.R⟩ ca cc pa pc ea ec) 67 (0, 0)) /\ IntsAt w' ca d.C /\ (d.C.length <= cc /\ (ca = none -> cc = 0)) /\ RcAt w' d.R pa ea /\ (Fr wx.heap.size ca /\ Fr wx.heap.size pa /\ Fr wx.heap.size ea) /\ Rd w' x s d.a /\ ∀ bb, blockOf la = some bb -> blockOf ca ≠ some bb /\ blockOf pa ≠ some bb /\ blockOf ea ≠ some bb) := fun wx g h1 h2 h3 => (kb0 wx g h1 h2 h3).mono fun e w' h => by
   obtain ⟨h1, h2⟩ := h
   rw [hbd] at h2
   exact ⟨h1, h2⟩
  have KW : Hid (∀ wx la lc, IntsAt wx la d.m -> G0 142 #[.slice la d.m.length lc, .int .i64 (v - n)] wx (.bool false)) := fun wx la lc hh => by
   have h := s_within d.m la lc (v - n - 1).toNat (by omega) false (ff_iff (by rw [show (((v - n - 1).toNat : Nat) : Int) + 1 = v - n by omega]; exact hall)) wx hh
   rw [show (((v - n - 1).toNat : Nat) : Int) + 1 = v - n by omega] at h
   exact h
  clear kb0 hbd hall
 rotate_left
 focus
  intro x s hs a ha b v hb hv w hrd k o n a1 hhd d hbd hall
  have hsub := sub_again_rng hb hv hhd hbd
  have hxw : x < w.heap.size := lt_of_block hrd
  have KA : Hid (∀ wx, G0 133 #[.int .i64 b, .int .i64 v] wx (.bool true)) := fun wx => s_areOf b v true (tt_iff ⟨hb, hv⟩) wx
  have H0 : Hid (HDS w x s a (w.alloc (.cells (subC ⟨0, 0, 0, 0, 0, [], R0⟩ none 0 none 0 none 0) 67))) := HDS.start hrd
  have kh0 := fun wx hh => s_rhead x s hs a ha b v hb.1 hv.1 wx hh
  clear hrd
  have hha := head10_again hv.1 hhd
  have hal := head_le hv.1 hhd ha
  have hn0 : 0 <= n /\ n < v := hha.2.2.1
  have KH : Hid (∀ wx, Rd wx x s a -> Calls Tryz.prog 140 #[.pointer (some ⟨x, 0, none⟩), .int .i64 b, .int .i64 v] wx fun e w' => Stays (only x) wx w' /\ e = .returned (.tuple #[subV ⟨k, o, n, 0, 0, [], R0⟩ none 0 none 0 none 0, .bool true]) /\ Rd w' x s a1) := fun wx hh => (kh0 wx hh).mono fun e w' h => by
   obtain ⟨h1, h2⟩ := h
   rw [hhd] at h2
   exact ⟨h1, h2⟩
  have kb0 := fun wx g h1 h2 h3 => s_rbody x s hs a1 hal b (v - n) hb.1 hb.2 (by omega) (by omega) g o n k hha.1 hha.2.1 wx h1 h2 h3
  clear kh0 hha hhd
  have KB : Hid (∀ wx g, Rd wx x s a1 -> wx.heap[g]? = some (.cells (subC ⟨k, o, n, 0, 0, [], R0⟩ none 0 none 0 none 0) 67 (0, 0)) -> x ≠ g -> Calls Tryz.prog 141 #[.pointer (some ⟨x, 0, none⟩), .pointer (some ⟨g, 0, none⟩), .int .i64 b, .int .i64 (v - n)] wx fun e w' => Stays (XG x g) wx w' /\ ∃ la lc ca cc pa pc ea ec, e = .returned (.tuple #[.slice la d.m.length lc, .bool true]) /\ RowS wx.heap.size la lc d.m w' /\ w'.heap[g]? = some (.cells (subC ⟨k, o, n, d.p, d.h, d.C, d.R⟩ ca cc pa pc ea ec) 67 (0, 0)) /\ IntsAt w' ca d.C /\ (d.C.length <= cc /\ (ca = none -> cc = 0)) /\ RcAt w' d.R pa ea /\ (Fr wx.heap.size ca /\ Fr wx.heap.size pa /\ Fr wx.heap.size ea) /\ Rd w' x s d.a /\ ∀ bb, blockOf la = some bb -> blockOf ca ≠ some bb /\ blockOf pa ≠ some bb /\ blockOf ea ≠ some bb) := fun wx g h1 h2 h3 => (kb0 wx g h1 h2 h3).mono fun e w' h => by
   obtain ⟨h1, h2⟩ := h
   rw [hbd] at h2
   exact ⟨h1, h2⟩
  have KW : Hid (∀ wx la lc, IntsAt wx la d.m -> G0 142 #[.slice la d.m.length lc, .int .i64 (v - n)] wx (.bool true)) := fun wx la lc hh => by
   have h := s_within d.m la lc (v - n - 1).toNat (by omega) true (tt_iff (by rw [show (((v - n - 1).toNat : Nat) : Int) + 1 = v - n by omega]; exact hall)) wx hh
   rw [show (((v - n - 1).toNat : Nat) : Int) + 1 = v - n by omega] at h
   exact h
  clear kb0 hbd hall
 rotate_left
 all_goals
  go_enter Tryz.func102, Tryz.ntmps102
  go_upto_region 1 with fail
  generalize World.alloc _ _ = wa at *
  go_wp2_with fail
  refine (KA.out _).mono ?_
  rintro e wy ⟨rfl, hwy⟩
  subst hwy
  clear KA
  have kh := KH.out _ H0.out.rd
  go_wp2_with fail
  refine kh.mono ?_
  rintro e w1 ⟨hst, rfl, hr1⟩
  have h1z : w1.heap[w.heap.size]? = some (.cells (subC ⟨0, 0, 0, 0, 0, [], R0⟩ none 0 none 0 none 0) 67 (0, 0)) := by rw [hst.block _ (lt_of_block H0.out.zb) (fun e => by have h3 : w.heap.size = x := e; omega)]; exact H0.out.zb
  have hbl : Lo w1 (w1.alloc (.cells (subC ⟨k, o, n, 0, 0, [], R0⟩ none 0 none 0 none 0) 67)) := aQ
  have hgw : w.heap.size < w1.heap.size := lt_of_block h1z
  have H2 : Hid ((w1.alloc (.cells (subC ⟨k, o, n, 0, 0, [], R0⟩ none 0 none 0 none 0) 67)).heap[w.heap.size]? = some (.cells (subC ⟨0, 0, 0, 0, 0, [], R0⟩ none 0 none 0 none 0) 67 (0, 0)) /\ Stays (only x) w (w1.alloc (.cells (subC ⟨k, o, n, 0, 0, [], R0⟩ none 0 none 0 none 0) 67)) /\ (w1.alloc (.cells (subC ⟨k, o, n, 0, 0, [], R0⟩ none 0 none 0 none 0) 67)).heap[w1.heap.size]? = some (.cells (subC ⟨k, o, n, 0, 0, [], R0⟩ none 0 none 0 none 0) 67 (0, 0)) /\ Rd (w1.alloc (.cells (subC ⟨k, o, n, 0, 0, [], R0⟩ none 0 none 0 none 0) 67)) x s a1) :=
   ⟨by rw [hbl.block _ hgw]; exact h1z, (H0.out.st.trans hst (fun _ _ h => h)).trans (Stays.of_below hbl (only x)) (fun _ _ h => h), heap_alloc_new _ _, hr1.below hbl⟩
  clear kh hst H0 hr1 h1z hbl
  go_upto_region 4 with fail
  generalize World.alloc _ _ = w2 at *
  generalize w1.heap.size = g at *
  have hxg : x ≠ g := by omega
  obtain ⟨x0, x1, x2, x3, x4, x5, x6, x7, x8, x9⟩ := sub_cells H2.out.2.2.1
  have kb := KB.out w2 g H2.out.2.2.2 H2.out.2.2.1 hxg
  clear KB
  go_wp2_with fail
  refine kb.mono ?_
 ·rintro e w3 ⟨hst, rfl⟩
  have H3 : Hid (w3.heap[w.heap.size]? = some (.cells (subC ⟨0, 0, 0, 0, 0, [], R0⟩ none 0 none 0 none 0) 67 (0, 0)) /\ Stays (only x) w w3) := ⟨by rw [hst.block _ (lt_of_block H2.out.1) (fun e => by rcases e with e | e <;> omega)]; exact H2.out.1, H2.out.2.1.trans hst (fun i hi e => by rcases e with e | e; exact e; omega)⟩
  clear kb hst H2 x0 x1 x2 x3 x4 x5 x6 x7 x8 x9
  obtain ⟨x0, x1, x2, x3, x4, x5, x6, x7, x8, x9⟩ := sub_cells H3.out.1
  have fu0 := row_frozen H3.out.1 0
  have fu1 := row_frozen H3.out.1 1
  have fu2 := row_frozen H3.out.1 2
  have fu3 := row_frozen H3.out.1 3
  have fu4 := row_frozen H3.out.1 4
  have fu5 := row_frozen H3.out.1 5
  have fu6 := row_frozen H3.out.1 6
  have fu7 := row_frozen H3.out.1 7
  have fu8 := row_frozen H3.out.1 8
  have fu9 := row_frozen H3.out.1 9
  go_wp2_with fail
  generalize hwf : World.setCell _ _ _ = wf
  have hH : wf.heap[w.heap.size]? = some (.cells (subC ⟨0, 0, 0, 0, 0, [], R0⟩ none 0 none 0 none 0) 67 (0, 0)) := by rw [<- hwf]; exact set10_a _ _ _ _ _ _ _ _ _ _ _ H3.out.1
  have hS : Stays (only x) w wf := by rw [<- hwf]; exact set10_c _ _ _ _ _ _ _ _ _ _ _ _ _ (Or.inr (Nat.le_refl _)) H3.out.2
  refine bodyPost_ret (v := .tuple #[.slice none 0 0, .agg (subC ⟨0, 0, 0, 0, 0, [], R0⟩ none 0 none 0 none 0), .int .i64 2]) ?_ rfl ⟨rfl, hS⟩
  rw [results_mid rfl]
  have hl0 := run_loadVar_row (P := Tryz.prog) (wf) (w.heap.size) 67 67 (subC ⟨0, 0, 0, 0, 0, [], R0⟩ none 0 none 0 none 0) (0, 0) _ hH Tryz.underlying67 rfl info_Sub
  simp [asAddr, Result.andThen, hl0]
 rotate_left 2
 all_goals
  rintro e w3 ⟨hst, la, lc, ca, cc, pa, pc, ea, ec, rfl, r1, r2, r3, r4, r5, r6, r7, r8⟩
  have H3 : Hid (w3.heap[w.heap.size]? = some (.cells (subC ⟨0, 0, 0, 0, 0, [], R0⟩ none 0 none 0 none 0) 67 (0, 0)) /\ Stays (only x) w w3) := ⟨by rw [hst.block _ (lt_of_block H2.out.1) (fun e => by rcases e with e | e <;> omega)]; exact H2.out.1, H2.out.2.1.trans hst (fun i hi e => by rcases e with e | e; exact e; omega)⟩
  have HSZ := kQ H2.out.2.1.size
  have HR : Hid (RowS w2.heap.size la lc d.m w3 /\ w3.heap[g]? = some (.cells (subC ⟨k, o, n, d.p, d.h, d.C, d.R⟩ ca cc pa pc ea ec) 67 (0, 0)) /\ IntsAt w3 ca d.C /\ (d.C.length <= cc /\ (ca = none -> cc = 0)) /\ RcAt w3 d.R pa ea /\ (Fr w2.heap.size ca /\ Fr w2.heap.size pa /\ Fr w2.heap.size ea) /\ Rd w3 x s d.a /\ ∀ bb, blockOf la = some bb -> blockOf ca ≠ some bb /\ blockOf pa ≠ some bb /\ blockOf ea ≠ some bb) := ⟨r1, r2, r3, r4, r5, r6, r7, r8⟩
  have hg2 : g < w2.heap.size := lt_of_block H2.out.2.2.1
  clear kb hst H2 x0 x1 x2 x3 x4 x5 x6 x7 x8 x9 r1 r2 r3 r4 r5 r6 r7 r8
  obtain ⟨x0, x1, x2, x3, x4, x5, x6, x7, x8, x9⟩ := sub_cells HR.out.2.1
  have kw := KW.out w3 la lc HR.out.1.ints
  clear KW
  have hdl := HR.out.1.len
  go_wp2_with fail
  refine kw.mono ?_
  rintro e w4 ⟨rfl, hw4⟩
  subst hw4
  clear kw
 ·clear x0 x1 x2 x3 x4 x5 x6 x7 x8 x9
  obtain ⟨x0, x1, x2, x3, x4, x5, x6, x7, x8, x9⟩ := sub_cells H3.out.1
  have fu0 := row_frozen H3.out.1 0
  have fu1 := row_frozen H3.out.1 1
  have fu2 := row_frozen H3.out.1 2
  have fu3 := row_frozen H3.out.1 3
  have fu4 := row_frozen H3.out.1 4
  have fu5 := row_frozen H3.out.1 5
  have fu6 := row_frozen H3.out.1 6
  have fu7 := row_frozen H3.out.1 7
  have fu8 := row_frozen H3.out.1 8
  have fu9 := row_frozen H3.out.1 9
  go_wp2_with fail
  generalize hwf : World.setCell _ _ _ = wf
  have hH : wf.heap[w.heap.size]? = some (.cells (subC ⟨0, 0, 0, 0, 0, [], R0⟩ none 0 none 0 none 0) 67 (0, 0)) := by rw [<- hwf]; exact set10_a _ _ _ _ _ _ _ _ _ _ _ H3.out.1
  have hS : Stays (only x) w wf := by rw [<- hwf]; exact set10_c _ _ _ _ _ _ _ _ _ _ _ _ _ (Or.inr (Nat.le_refl _)) H3.out.2
  refine bodyPost_ret (v := .tuple #[.slice none 0 0, .agg (subC ⟨0, 0, 0, 0, 0, [], R0⟩ none 0 none 0 none 0), .int .i64 2]) ?_ rfl ⟨rfl, hS⟩
  rw [results_mid rfl]
  have hl0 := run_loadVar_row (P := Tryz.prog) (wf) (w.heap.size) 67 67 (subC ⟨0, 0, 0, 0, 0, [], R0⟩ none 0 none 0 none 0) (0, 0) _ hH Tryz.underlying67 rfl info_Sub
  simp [asAddr, Result.andThen, hl0]
 ·obtain ⟨gl, hla, hgl2, _⟩ := HR.out.1.at_
  subst hla
  have HSH : Hid (Shl w4 gl d.m n.toNat 0 w4) := Shl.start HR.out.1 n.toNat
  have hgg : g ≠ gl := by omega
  have hnn : ((n.toNat : Nat) : Int) = n := by omega
  clear x0 x1 x2 x3 x4 x5 x6 x7 x8 x9
  go_wp2_with fail
  go_loopw [12, 56] (fun s12 s56 wr => ∃ i : Nat, i <= d.m.length /\ s56 = .int .i64 (i : Int) /\ Shl w4 gl d.m n.toNat i wr) (fun _ s56 _ => d.m.length - (intOf s56).toNat)
  case atStart => exact ⟨0, Nat.zero_le _, rfl, HSH.out⟩
  case round =>
   clear HSH
   obtain ⟨i, hi, rfl, hsh⟩ := hrel
   by_cases hlt : i < d.m.length
   ·have hsd := hsh.drew
    have HGd := kQ (hsd.box HR.out.2.1 hgg)
    have y5 := hsd.cell hlt
    have z5 := hsd.frozen i
    have HNX := kQ (hsd.set hlt)
    have HGN := kQ (HNX.out.box HR.out.2.1 hgg)
    have hn33 : n.toNat <= 33 := by omega
    clear hsd hsh
    generalize d.m.getD i 0 = y at *
    go_wp2_with fail
    refine wp_region_held_drew (S := fun wx => wx.heap[g]? = some (.cells (subC ⟨k, o, n, d.p, d.h, d.C, d.R⟩ ca cc pa pc ea ec) 67 (0, 0))) (by kernel_rfl) HGd.out (fun hS => ?_)
    refine vQ 0 (.slice (some ⟨gl, 0, none⟩) d.m.length lc) hS ?_
    simp only [SL]
    refine vQ 1 (.int .i64 (i : Int)) hS ?_
    simp only [SL]
    refine vQ 2 (.pointer (some ⟨gl, i, none⟩)) hS ?_
    simp only [SL]
    refine vQ 4 (.pointer (some ⟨g, 2, none⟩)) hS ?_
    simp only [SL]
    refine uQ 5 (.int .i64 n) rfl hS (Or.inl ⟨by rfl, fun w hSw => by obtain ⟨x0, x1, x2, x3, x4, x5, x6, x7, x8, x9⟩ := sub_cells hSw; go_simp⟩) ?_
    simp only [SL]
    refine wpAnyH_ready (rs := [3]) (by kernel_rfl) (by simp) ?_
    refine AllReadyH.cons rfl (fun K hK => ?_) AllReadyH.nil
    go_simp
    refine hK.out _ _ HGd.out (fun hS3 => ?_)
    clear hK K
    try simp only [SL]
    refine uQ 6 (.int .i64 (wrap64 (y * 2 ^ n.toNat))) rfl hS3 (Or.inl ⟨by rfl, fun w hSw => by go_simp; exact wrap_is _⟩) ?_
    simp only [SL]
    refine vQ 7 (.pointer (some ⟨gl, i, none⟩)) hS3 ?_
    simp only [SL]
    refine wpAnyH_ready (rs := [8]) (by kernel_rfl) (by simp) ?_
    refine AllReadyH.cons rfl (fun K hK => ?_) AllReadyH.nil
    go_simp
    refine hK.out _ _ HGN.out (fun hS6 => ?_)
    clear hK K
    refine wpAnyH_done (by kernel_rfl) ?_ _
    go_wp2_with fail
    go_roundw
    case rel => exact ⟨i + 1, by omega, by go_num, HNX.out⟩
    case measure => simp [intOf]; omega
   ·have hil : i = d.m.length := by omega
    subst hil
    have hzr : wr.heap[w.heap.size]? = some (.cells (subC ⟨0, 0, 0, 0, 0, [], R0⟩ none 0 none 0 none 0) 67 (0, 0)) := hsh.box H3.out.1 (by omega)
    have hgr : wr.heap[g]? = some (.cells (subC ⟨k, o, n, d.p, d.h, d.C, d.R⟩ ca cc pa pc ea ec) 67 (0, 0)) := hsh.box HR.out.2.1 hgg
    have HE : Hid (Stays (only gl) w4 wr /\ RowS w2.heap.size (some ⟨gl, 0, none⟩) lc (shlL d.m n.toNat) wr) := ⟨hsh.st, hsh.row_end hgl2 HR.out.1.cap_ HR.out.1.len⟩
    have HLS : Hid ((shlL d.m n.toNat).length = d.m.length) := shl_len _ _
    clear hsh
    obtain ⟨y0, y1, y2, y3, y4, y5, y6, y7, y8, y9⟩ := sub_cells hgr
    obtain ⟨x0, x1, x2, x3, x4, x5, x6, x7, x8, x9⟩ := sub_cells hzr
    have fu0 := row_frozen hzr 0
    have fu1 := row_frozen hzr 1
    have fu2 := row_frozen hzr 2
    have fu3 := row_frozen hzr 3
    have fu4 := row_frozen hzr 4
    have fu5 := row_frozen hzr 5
    have fu6 := row_frozen hzr 6
    have fu7 := row_frozen hzr 7
    have fu8 := row_frozen hzr 8
    have fu9 := row_frozen hzr 9
    have hgn : ¬ g = w.heap.size := by omega
    have hgn2 : ¬ w.heap.size = g := by omega
    have HZR := kQ hzr
    clear hgr hzr
    go_wp2_with fail
    go_region
    go_wp2_with fail
    generalize hwf : World.setCell _ _ _ = wf
    have hH0 : wf.heap[w.heap.size]? = some (.cells (subC ⟨k, o, n, d.p, d.h, d.C, d.R⟩ ca cc pa pc ea ec) 67 (0, 0)) := by rw [<- hwf]; exact set10_a _ _ _ _ _ _ _ _ _ _ _ HZR.out
    have hj : ∀ j, j ≠ w.heap.size -> wf.heap[j]? = wr.heap[j]? := fun j h0 => by rw [<- hwf]; exact set10_d _ _ _ _ _ _ _ _ _ _ _ j h0
    have hS0 : Stays (only x) w wf := by
     have h1 : Stays (only x) w wr := H3.out.2.trans HE.out.1 (fun i hi e => by have e2 : i = gl := e; omega)
     rw [<- hwf]; exact set10_c _ _ _ _ _ _ _ _ _ _ _ _ _ (Or.inr (Nat.le_refl _)) h1
    have hH : wf.drew.heap[w.heap.size]? = some (.cells (subC ⟨k, o, n, d.p, d.h, d.C, d.R⟩ ca cc pa pc ea ec) 67 (0, 0)) := hH0
    have hS : Stays (only x) w wf.drew := hS0.drew
    have hrow : RowS w.heap.size (some ⟨gl, 0, none⟩) lc (shlL d.m n.toNat) wf.drew := RowS.mono (RowS.keep (w' := wf.drew) HE.out.2 (fun j h1 h2 => hj j (by omega))) HSZ.out
    obtain ⟨q1, q2, q3, q4, q5, q6, q7, q8⟩ := HR.out
    have hq8 := q8 gl (by simp [blockOf])
    have hkeep : ∀ (xo : OA) (l : List Int), IntsAt w4 xo l -> Fr w2.heap.size xo -> blockOf xo ≠ some gl -> IntsAt wf.drew xo l := fun xo l h1 h2 h3 => by
     refine ⟨h1.len, h1.num, fun h0 => ?_⟩
     obtain ⟨bb, off, e, hc⟩ := h1.lies h0
     refine ⟨bb, off, e, fun j hj2 => ?_⟩
     have hbb : blockOf xo = some bb := by rw [e]; rfl
     have hlt := lt_cell (hc j hj2)
     have hge := h2 bb hbb
     have e1 : wf.drew.heap[bb]? = w4.heap[bb]? := by
      show wf.heap[bb]? = _
      rw [hj bb (by omega)]
      exact HE.out.1.block bb hlt (fun e4 => h3 (by rw [hbb]; exact congrArg some e4))
     rw [World.cell?_of_block (w := w4) e1]
     exact hc j hj2
    have hsb : SbAt wf.drew ⟨k, o, n, d.p, d.h, d.C, d.R⟩ ca pa ea := ⟨hkeep _ _ q3 q6.1 hq8.1, ⟨hkeep _ _ q5.P q6.2.1 hq8.2.1, hkeep _ _ q5.E q6.2.2 hq8.2.2, q5.m1, q5.m2, q5.o1, q5.o2⟩, hsub.1, hsub.2.1, ⟨by show _ <= n; omega, by show n <= _; omega⟩, hsub.2.2.1, hsub.2.2.2⟩
    have hR : Rd wf.drew x s d.a := by
     unfold Rd at q7 ⊢
     show wf.heap[x]? = _
     rw [hj x (by omega), HE.out.1.block x (lt_of_block q7) (fun e => by have e2 : x = gl := e; omega)]
     exact q7
    have hfr : ∀ xo, Fr w2.heap.size xo -> Fr w.heap.size xo := fun xo h bb hbb => Nat.le_trans HSZ.out (h bb hbb)
    refine bodyPost_ret (v := .tuple #[.slice (some ⟨gl, 0, none⟩) d.m.length lc, .agg (subC ⟨k, o, n, d.p, d.h, d.C, d.R⟩ ca cc pa pc ea ec), .int .i64 0]) ?_ rfl ⟨_, _, ca, cc, pa, pc, ea, ec, by rw [HLS.out], hrow, hsb, q4, ⟨hfr _ q6.1, hfr _ q6.2.1, hfr _ q6.2.2⟩, hR, hS⟩
    rw [results_mid rfl]
    have hl0 := run_loadVar_row (P := Tryz.prog) (wf.drew) (w.heap.size) 67 67 (subC ⟨k, o, n, d.p, d.h, d.C, d.R⟩ ca cc pa pc ea ec) (0, 0) _ hH Tryz.underlying67 rfl info_Sub
    simp [asAddr, Result.andThen, hl0]
theorem allT_sig (v : Int) (h1 : ¬ v = -1) (h0 : ¬ v = 0) (m : List Int) : allT 0 v m = true ↔ ∀ y ∈ m, sigE y v = 0 := by
 rw [allT_iff]
 exact ⟨fun h y hy => (fit0 v y h1 h0).1 (h y hy), fun h y hy => (fit0 v y h1 h0).2 (h y hy)⟩
theorem does10 : Does10 where
 enc_ok := fun q v l ca cc pa pc ea ec lo cap p ao B w _ _ _ _ h01 hB hq hl hw _ _ _ _ hok => grp5.2.2.2 q v l ca cc pa pc ea ec lo cap p ao B h01 (by omega) w hq hl hw hok
 enc_no := fun q v l ca cc pa pc ea ec lo cap p ao B w _ _ _ _ _ _ _ _ hq hl _ _ _ _ _ hno => by
  by_cases h1 : subOk q l.length v
  ·by_cases h2 : fitOk q v l
   ·exact grp5.2.2.1 q v l ca cc pa pc ea ec lo cap p w hq hl h1 h2 (fun h3 => hno ⟨h1, h2.1, h2.2.1, h2.2.2, h3⟩)
   ·exact grp5.2.1 q v l ca cc pa pc ea ec lo cap p w hq hl h1 h2
  ·exact grp5.1 q v l ca cc pa pc ea ec lo cap p w hq hl h1
 dec_ok := fun x s a b v l q a1 w hs ha hb hv hrd hd => by
  unfold decS at hd
  cases hh : rdSHead s a b v with
  | none => rw [hh] at hd; cases hd
  | some p =>
   obtain ⟨k, o, n, a2⟩ := p
   rw [hh] at hd
   simp only at hd
   have hn : 0 <= n /\ n < v := (head10_again hv.1 hh).2.2.1
   cases hbd : rdSBody s a2 b (v - n) k o with
   | none => rw [hbd] at hd; cases hd
   | some d =>
    rw [hbd] at hd
    simp only at hd
    split at hd
    ·rename_i hall
     cases hd
     refine (grp6.2.2.2 x s (by omega) a ha b v hb hv w hrd k o n a2 hh d hbd ((allT_sig (v - n) (by omega) (by omega) d.m).1 hall)).mono fun e w' h => ?_
     obtain ⟨la, lc, ca, cc, pa, pc, ea, ec, h1, h2, h3, h4, h5, h6, h7⟩ := h
     exact ⟨la, lc, ca, cc, pa, pc, ea, ec, h1, h2.ints, ⟨h2.cap_, h2.none_⟩, h3, h4, ⟨h2.fr, h5.1, h5.2.1, h5.2.2⟩, h6, h7⟩
    ·cases hd
 dec_no := fun x s a b v w hs ha hb hv hrd hd => by
  unfold decS at hd
  cases hh : rdSHead s a b v with
  | none => exact grp6.1 x s (by omega) a ha b v hb hv w hrd hh
  | some p =>
   obtain ⟨k, o, n, a2⟩ := p
   rw [hh] at hd
   simp only at hd
   have hn : 0 <= n /\ n < v := (head10_again hv.1 hh).2.2.1
   cases hbd : rdSBody s a2 b (v - n) k o with
   | none => exact grp6.2.1 x s (by omega) a ha b v hb hv w hrd k o n a2 hh hbd
   | some d =>
    rw [hbd] at hd
    simp only at hd
    split at hd
    ·cases hd
    ·rename_i hall
     exact grp6.2.2.1 x s (by omega) a ha b v hb hv w hrd k o n a2 hh d hbd (fun h => hall ((allT_sig (v - n) (by omega) (by omega) d.m).2 h))
 dec_arg := fun x s a b v w _ _ _ hno => dec_arg10 x b v w hno
end Go.Proofs.YtfpfabmbipmipaaGreatDoor
