/- Own text: the program's Decode, where it refuses. -/
import Derived.Test.YtkhdkmdiblomhaaQ10bd
namespace Go.Proofs.Ytkhdkmdiblomhaa
open Go.RowKit
set_option linter.unusedSimpArgs false
set_option linter.unusedVariables false

theorem head_le {s : ByteArray} {a : Nat} {b v k o n : Int} {a1 : Nat} (hv : 1 ≤ v) (h : rdSHead s a b v = some (k, o, n, a1)) (ha : a ≤ 8 * s.size) : a1 ≤ 8 * s.size := by
  obtain ⟨_, _, _, h1, h2⟩ := head10_again hv h
  have h3 := congrArg List.length h1
  rw [List.length_append, List.length_append, ahead_length, ahead_length] at h3
  omega
/-- A row whose first i numbers are shifted. -/
structure Shl (w0 : World) (gl : Nat) (m : List Int) (k i : Nat) (wr : World) : Prop where
  row : ∃ cs : Array Value, wr.heap[gl]? = some (.cells cs 3 (0, 0)) ∧ ∀ j, j < m.length → cs[j]? = some (.int .i64 (if j < i then wrap64 (m.getD j 0 * 2 ^ k) else m.getD j 0))
  st : Stays (only gl) w0 wr
section
variable {w0 wr : World} {gl : Nat} {m : List Int} {k i : Nat}
theorem Shl.drew (h : Shl w0 gl m k i wr) : Shl w0 gl m k i wr.drew := ⟨h.row, h.st.drew⟩
theorem Shl.cell (h : Shl w0 gl m k i wr) (hi : i < m.length) : wr.cell? ⟨gl, i, none⟩ = some (.int .i64 (m.getD i 0)) := by
  obtain ⟨cs, h1, h2⟩ := h.row
  rw [cell_row h1, h2 i hi, if_neg (Nat.lt_irrefl i)]
theorem Shl.frozen (h : Shl w0 gl m k i wr) (j : Nat) : wr.frozen? ⟨gl, j, none⟩ = false := by
  obtain ⟨cs, h1, _⟩ := h.row
  exact row_frozen h1 j
theorem Shl.set (h : Shl w0 gl m k i wr) (hi : i < m.length) : Shl w0 gl m k (i + 1) (wr.setCell ⟨gl, i, none⟩ (.int .i64 (wrap64 (m.getD i 0 * 2 ^ k)))) := by
  obtain ⟨cs, h1, h2⟩ := h.row
  refine ⟨⟨cs.setIfInBounds i (.int .i64 (wrap64 (m.getD i 0 * 2 ^ k))), heap_setCell_same _ _ _ _ _ _ h1, fun j hj => ?_⟩, h.st.setCell _ _ (Or.inl rfl)⟩
  rw [Array.getElem?_setIfInBounds]
  by_cases e : i = j
  · subst e
    have hlt : i < cs.size := by
      rcases Nat.lt_or_ge i cs.size with h3 | h3
      · exact h3
      · have := h2 i hi; rw [Array.getElem?_eq_none h3] at this; cases this
    rw [if_pos rfl, if_pos hlt, if_pos (by omega)]
  · rw [if_neg e, h2 j hj]
    by_cases e2 : j < i
    · rw [if_pos e2, if_pos (by omega)]
    · rw [if_neg e2, if_neg (by omega)]
theorem Shl.box (h : Shl w0 gl m k i wr) {g : Nat} {o : Obj} (hg : w0.heap[g]? = some o) (hn : g ≠ gl) : wr.heap[g]? = some o := by
  rw [h.st.block _ (lt_of_block hg) hn]; exact hg
end
theorem Shl.start {n : Nat} {gl cap : Nat} {m : List Int} {w0 : World} (h : RowS n (some ⟨gl, 0, none⟩) cap m w0) (k : Nat) : Shl w0 gl m k 0 w0 := by
  obtain ⟨g, e, _, cs, h1, h2⟩ := h.at_
  cases e
  exact ⟨⟨cs, h1, fun j hj => by rw [if_neg (Nat.not_lt_zero j)]; exact h2 j hj⟩, Stays.refl _ _⟩
theorem Shl.row_end {n : Nat} {gl cap : Nat} {m : List Int} {w0 wr : World} {k : Nat} (h : Shl w0 gl m k m.length wr) (hg : n ≤ gl) (hc : m.length ≤ cap) (hl : m.length ≤ 17592186044415) : RowS n (some ⟨gl, 0, none⟩) cap (shlL m k) wr := by
  obtain ⟨cs, h1, h2⟩ := h.row
  have hsl := shl_len m k
  refine ⟨⟨gl, rfl, hg, cs, h1, fun j hj => ?_⟩, by omega, by omega, fun x hx => ?_⟩
  · rw [h2 j (by omega), if_pos (by omega), getD_shl]
  · obtain ⟨y, _, rfl⟩ := List.mem_map.1 hx
    exact wrap_rng _
set_option maxRecDepth 20000 in
set_option maxHeartbeats 3200000 in
theorem dec_arg10 (x : Nat) (b v : Int) (w : World) (hno : ¬ ((1 ≤ b ∧ b ≤ 65535) ∧ (1 ≤ v ∧ v ≤ 33))) : Calls Try.prog 13 #[.pointer (some ⟨x, 0, none⟩), .int .i64 b, .int .i64 v] w fun e w' => e = .returned (.tuple #[.slice none 0 0, subV S0 none 0 none 0 none 0, .int .i64 1]) ∧ Below w.heap.size w w' := by
  have KA : Hid (∀ wx, Calls Try.prog 25 #[.int .i64 b, .int .i64 v] wx fun e w' => e = .returned (.bool false) ∧ w' = wx) := fun wx => s_areOf b v false (ff_iff hno) wx
  clear hno
  go_enter Try.func13, Try.ntmps13
  go_wp2_with (go_at_call 25; refine (KA.out _).mono ?_; rintro e w' ⟨rfl, rfl⟩)
  generalize hwf : World.alloc _ _ = wf
  have hH : wf.heap[w.heap.size]? = some (.cells (subC ⟨0, 0, 0, 0, 0, [], R0⟩ none 0 none 0 none 0) 26 (0, 0)) := by rw [← hwf]; exact heap_alloc_new _ _
  have hS : Below w.heap.size w wf := by rw [← hwf]; exact (Below.refl _ _).alloc (Nat.le_refl _) _
  refine bodyPost_ret (v := .tuple #[.slice none 0 0, .agg (subC ⟨0, 0, 0, 0, 0, [], R0⟩ none 0 none 0 none 0), .int .i64 1]) ?_ rfl ⟨rfl, hS⟩
  rw [results_mid rfl]
  have hl0 := run_loadVar_row (P := Try.prog) (wf) (w.heap.size) 26 26 (subC ⟨0, 0, 0, 0, 0, [], R0⟩ none 0 none 0 none 0) (0, 0) _ hH Try.underlying26 rfl info_Sub
  simp [asAddr, Result.andThen, hl0]
set_option maxRecDepth 20000 in
set_option maxHeartbeats 3200000 in
theorem dec_head (x : Nat) (s : ByteArray) (hs : s.size ≤ 1000000000000000000) (a : Nat) (ha : a ≤ 8 * s.size) (b v : Int) (hb : 1 ≤ b ∧ b ≤ 65535) (hv : 1 ≤ v ∧ v ≤ 33) (w : World) (hrd : Rd w x s a) (hno : rdSHead s a b v = none) : Calls Try.prog 13 #[.pointer (some ⟨x, 0, none⟩), .int .i64 b, .int .i64 v] w fun e w' => e = .returned (.tuple #[.slice none 0 0, subV S0 none 0 none 0 none 0, .int .i64 2]) ∧ Stays (only x) w w' := by
  have hxw : x < w.heap.size := lt_of_block hrd
  have KA : Hid (∀ wx, Calls Try.prog 25 #[.int .i64 b, .int .i64 v] wx fun e w' => e = .returned (.bool true) ∧ w' = wx) := fun wx => s_areOf b v true (tt_iff ⟨hb, hv⟩) wx
  have H0 : Hid (HDS w x s a (w.alloc (.cells (subC ⟨0, 0, 0, 0, 0, [], R0⟩ none 0 none 0 none 0) 26))) := HDS.start hrd
  have kh0 := fun wx hh => s_rhead x s hs a ha b v hb.1 hv.1 wx hh
  clear hrd
  have KH : Hid (∀ wx, Rd wx x s a → Calls Try.prog 26 #[.pointer (some ⟨x, 0, none⟩), .int .i64 b, .int .i64 v] wx fun e w' => Stays (only x) wx w' ∧ ∃ k o n, e = .returned (.tuple #[subV ⟨k, o, n, 0, 0, [], R0⟩ none 0 none 0 none 0, .bool false])) := fun wx hh => (kh0 wx hh).mono fun e w' h => by
    obtain ⟨h1, h2⟩ := h
    rw [hno] at h2
    exact ⟨h1, h2⟩
  clear kh0 hno
  go_enter Try.func13, Try.ntmps13
  go_upto_region 1 with fail
  generalize hwa : World.alloc _ _ = wa at *
  clear hwa
  go_wp2_with fail
  refine (KA.out _).mono ?_
  rintro e wy ⟨rfl, hwy⟩
  subst hwy
  clear KA
  have kh := KH.out _ H0.out.rd
  go_wp2_with fail
  refine kh.mono ?_
  rintro e w1 ⟨hst, k, o, n, rfl⟩
  have HZ : Hid (∀ ob, (w1.alloc ob).heap[w.heap.size]? = some (.cells (subC ⟨0, 0, 0, 0, 0, [], R0⟩ none 0 none 0 none 0) 26 (0, 0)) ∧ Stays (only x) w (w1.alloc ob)) := fun ob => by
    have h1 : w1.heap[w.heap.size]? = some (.cells (subC ⟨0, 0, 0, 0, 0, [], R0⟩ none 0 none 0 none 0) 26 (0, 0)) := by rw [hst.block _ (lt_of_block H0.out.zb) (fun e => by have h3 : w.heap.size = x := e; omega)]; exact H0.out.zb
    have hbl : Below w1.heap.size w1 (w1.alloc ob) := (Below.refl _ _).alloc (Nat.le_refl _) _
    exact ⟨by rw [hbl.block _ (lt_of_block h1)]; exact h1, (H0.out.st.trans hst (fun _ _ h => h)).trans (Stays.of_below hbl (only x)) (fun _ _ h => h)⟩
  clear kh hst H0
  go_upto_region 4 with fail
  generalize hwb : World.alloc _ _ = wb at *
  have HZB : Hid (wb.heap[w.heap.size]? = some (.cells (subC ⟨0, 0, 0, 0, 0, [], R0⟩ none 0 none 0 none 0) 26 (0, 0)) ∧ Stays (only x) w wb) := by rw [← hwb]; exact HZ.out _
  clear HZ hwb
  obtain ⟨x0, x1, x2, x3, x4, x5, x6, x7, x8, x9⟩ := sub_cells HZB.out.1
  have fu0 := row_frozen HZB.out.1 0
  have fu1 := row_frozen HZB.out.1 1
  have fu2 := row_frozen HZB.out.1 2
  have fu3 := row_frozen HZB.out.1 3
  have fu4 := row_frozen HZB.out.1 4
  have fu5 := row_frozen HZB.out.1 5
  have fu6 := row_frozen HZB.out.1 6
  have fu7 := row_frozen HZB.out.1 7
  have fu8 := row_frozen HZB.out.1 8
  have fu9 := row_frozen HZB.out.1 9
  go_wp2_with fail
  generalize hwf : World.setCell _ _ _ = wf
  have hH : wf.heap[w.heap.size]? = some (.cells (subC ⟨0, 0, 0, 0, 0, [], R0⟩ none 0 none 0 none 0) 26 (0, 0)) := by rw [← hwf]; exact set10_a _ _ _ _ _ _ _ _ _ _ _ HZB.out.1
  have hS : Stays (only x) w wf := by rw [← hwf]; exact set10_c _ _ _ _ _ _ _ _ _ _ _ _ _ (Or.inr (Nat.le_refl _)) HZB.out.2
  refine bodyPost_ret (v := .tuple #[.slice none 0 0, .agg (subC ⟨0, 0, 0, 0, 0, [], R0⟩ none 0 none 0 none 0), .int .i64 2]) ?_ rfl ⟨rfl, hS⟩
  rw [results_mid rfl]
  have hl0 := run_loadVar_row (P := Try.prog) (wf) (w.heap.size) 26 26 (subC ⟨0, 0, 0, 0, 0, [], R0⟩ none 0 none 0 none 0) (0, 0) _ hH Try.underlying26 rfl info_Sub
  simp [asAddr, Result.andThen, hl0]
set_option maxRecDepth 20000 in
set_option maxHeartbeats 3200000 in
theorem dec_body (x : Nat) (s : ByteArray) (hs : s.size ≤ 1000000000000000000) (a : Nat) (ha : a ≤ 8 * s.size) (b v : Int) (hb : 1 ≤ b ∧ b ≤ 65535) (hv : 1 ≤ v ∧ v ≤ 33) (w : World) (hrd : Rd w x s a) (k o n : Int) (a1 : Nat) (hhd : rdSHead s a b v = some (k, o, n, a1)) (hno : rdSBody s a1 b (v - n) k o = none) : Calls Try.prog 13 #[.pointer (some ⟨x, 0, none⟩), .int .i64 b, .int .i64 v] w fun e w' => e = .returned (.tuple #[.slice none 0 0, subV S0 none 0 none 0 none 0, .int .i64 2]) ∧ Stays (only x) w w' := by
  have hxw : x < w.heap.size := lt_of_block hrd
  have KA : Hid (∀ wx, Calls Try.prog 25 #[.int .i64 b, .int .i64 v] wx fun e w' => e = .returned (.bool true) ∧ w' = wx) := fun wx => s_areOf b v true (tt_iff ⟨hb, hv⟩) wx
  have H0 : Hid (HDS w x s a (w.alloc (.cells (subC ⟨0, 0, 0, 0, 0, [], R0⟩ none 0 none 0 none 0) 26))) := HDS.start hrd
  have kh0 := fun wx hh => s_rhead x s hs a ha b v hb.1 hv.1 wx hh
  clear hrd
  have hha := head10_again hv.1 hhd
  have hal := head_le hv.1 hhd ha
  have hn0 : 0 ≤ n ∧ n < v := hha.2.2.1
  have KH : Hid (∀ wx, Rd wx x s a → Calls Try.prog 26 #[.pointer (some ⟨x, 0, none⟩), .int .i64 b, .int .i64 v] wx fun e w' => Stays (only x) wx w' ∧ e = .returned (.tuple #[subV ⟨k, o, n, 0, 0, [], R0⟩ none 0 none 0 none 0, .bool true]) ∧ Rd w' x s a1) := fun wx hh => (kh0 wx hh).mono fun e w' h => by
    obtain ⟨h1, h2⟩ := h
    rw [hhd] at h2
    exact ⟨h1, h2⟩
  have kb0 := fun wx g h1 h2 h3 => s_rbody x s hs a1 hal b (v - n) hb.1 hb.2 (by omega) (by omega) g o n k hha.1 hha.2.1 wx h1 h2 h3
  clear kh0 hha hhd
  have KB : Hid (∀ wx g, Rd wx x s a1 → wx.heap[g]? = some (.cells (subC ⟨k, o, n, 0, 0, [], R0⟩ none 0 none 0 none 0) 26 (0, 0)) → x ≠ g → Calls Try.prog 27 #[.pointer (some ⟨x, 0, none⟩), .pointer (some ⟨g, 0, none⟩), .int .i64 b, .int .i64 (v - n)] wx fun e w' => Stays (XG x g) wx w' ∧ e = .returned (.tuple #[.slice none 0 0, .bool false])) := fun wx g h1 h2 h3 => (kb0 wx g h1 h2 h3).mono fun e w' h => by
    obtain ⟨h1, h2⟩ := h
    rw [hno] at h2
    exact ⟨h1, h2⟩
  clear kb0 hno
  go_enter Try.func13, Try.ntmps13
  go_upto_region 1 with fail
  generalize hwa : World.alloc _ _ = wa at *
  clear hwa
  go_wp2_with fail
  refine (KA.out _).mono ?_
  rintro e wy ⟨rfl, hwy⟩
  subst hwy
  clear KA
  have kh := KH.out _ H0.out.rd
  go_wp2_with fail
  refine kh.mono ?_
  rintro e w1 ⟨hst, rfl, hr1⟩
  have h1z : w1.heap[w.heap.size]? = some (.cells (subC ⟨0, 0, 0, 0, 0, [], R0⟩ none 0 none 0 none 0) 26 (0, 0)) := by rw [hst.block _ (lt_of_block H0.out.zb) (fun e => by have h3 : w.heap.size = x := e; omega)]; exact H0.out.zb
  have hbl : Below w1.heap.size w1 (w1.alloc (.cells (subC ⟨k, o, n, 0, 0, [], R0⟩ none 0 none 0 none 0) 26)) := (Below.refl _ _).alloc (Nat.le_refl _) _
  have hgw : w.heap.size < w1.heap.size := lt_of_block h1z
  have H2 : Hid ((w1.alloc (.cells (subC ⟨k, o, n, 0, 0, [], R0⟩ none 0 none 0 none 0) 26)).heap[w.heap.size]? = some (.cells (subC ⟨0, 0, 0, 0, 0, [], R0⟩ none 0 none 0 none 0) 26 (0, 0)) ∧ Stays (only x) w (w1.alloc (.cells (subC ⟨k, o, n, 0, 0, [], R0⟩ none 0 none 0 none 0) 26)) ∧ (w1.alloc (.cells (subC ⟨k, o, n, 0, 0, [], R0⟩ none 0 none 0 none 0) 26)).heap[w1.heap.size]? = some (.cells (subC ⟨k, o, n, 0, 0, [], R0⟩ none 0 none 0 none 0) 26 (0, 0)) ∧ Rd (w1.alloc (.cells (subC ⟨k, o, n, 0, 0, [], R0⟩ none 0 none 0 none 0) 26)) x s a1) :=
    ⟨by rw [hbl.block _ hgw]; exact h1z, (H0.out.st.trans hst (fun _ _ h => h)).trans (Stays.of_below hbl (only x)) (fun _ _ h => h), heap_alloc_new _ _, hr1.below hbl⟩
  clear kh hst H0 hr1 h1z hbl
  go_upto_region 4 with fail
  generalize hwb : World.alloc _ _ = w2 at *
  clear hwb
  generalize w1.heap.size = g at *
  have hxg : x ≠ g := by omega
  obtain ⟨x0, x1, x2, x3, x4, x5, x6, x7, x8, x9⟩ := sub_cells H2.out.2.2.1
  have kb := KB.out w2 g H2.out.2.2.2 H2.out.2.2.1 hxg
  clear KB
  go_wp2_with fail
  refine kb.mono ?_
  rintro e w3 ⟨hst, rfl⟩
  have H3 : Hid (w3.heap[w.heap.size]? = some (.cells (subC ⟨0, 0, 0, 0, 0, [], R0⟩ none 0 none 0 none 0) 26 (0, 0)) ∧ Stays (only x) w w3) := ⟨by rw [hst.block _ (lt_of_block H2.out.1) (fun e => by rcases e with e | e <;> omega)]; exact H2.out.1, H2.out.2.1.trans hst (fun i hi e => by rcases e with e | e; exact e; omega)⟩
  clear kb hst H2 x0 x1 x2 x3 x4 x5 x6 x7 x8 x9
  obtain ⟨x0, x1, x2, x3, x4, x5, x6, x7, x8, x9⟩ := sub_cells H3.out.1
  have fu0 := row_frozen H3.out.1 0
  have fu1 := row_frozen H3.out.1 1
  have fu2 := row_frozen H3.out.1 2
  have fu3 := row_frozen H3.out.1 3
  have fu4 := row_frozen H3.out.1 4
  have fu5 := row_frozen H3.out.1 5
  have fu6 := row_frozen H3.out.1 6
  have fu7 := row_frozen H3.out.1 7
  have fu8 := row_frozen H3.out.1 8
  have fu9 := row_frozen H3.out.1 9
  go_wp2_with fail
  generalize hwf : World.setCell _ _ _ = wf
  have hH : wf.heap[w.heap.size]? = some (.cells (subC ⟨0, 0, 0, 0, 0, [], R0⟩ none 0 none 0 none 0) 26 (0, 0)) := by rw [← hwf]; exact set10_a _ _ _ _ _ _ _ _ _ _ _ H3.out.1
  have hS : Stays (only x) w wf := by rw [← hwf]; exact set10_c _ _ _ _ _ _ _ _ _ _ _ _ _ (Or.inr (Nat.le_refl _)) H3.out.2
  refine bodyPost_ret (v := .tuple #[.slice none 0 0, .agg (subC ⟨0, 0, 0, 0, 0, [], R0⟩ none 0 none 0 none 0), .int .i64 2]) ?_ rfl ⟨rfl, hS⟩
  rw [results_mid rfl]
  have hl0 := run_loadVar_row (P := Try.prog) (wf) (w.heap.size) 26 26 (subC ⟨0, 0, 0, 0, 0, [], R0⟩ none 0 none 0 none 0) (0, 0) _ hH Try.underlying26 rfl info_Sub
  simp [asAddr, Result.andThen, hl0]
set_option maxRecDepth 20000 in
set_option maxHeartbeats 3200000 in
theorem dec_wide (x : Nat) (s : ByteArray) (hs : s.size ≤ 1000000000000000000) (a : Nat) (ha : a ≤ 8 * s.size) (b v : Int) (hb : 1 ≤ b ∧ b ≤ 65535) (hv : 1 ≤ v ∧ v ≤ 33) (w : World) (hrd : Rd w x s a) (k o n : Int) (a1 : Nat) (hhd : rdSHead s a b v = some (k, o, n, a1)) (d : Bd) (hbd : rdSBody s a1 b (v - n) k o = some d) (hall : ¬ ∀ y ∈ d.m, sigE y (v - n) = 0) : Calls Try.prog 13 #[.pointer (some ⟨x, 0, none⟩), .int .i64 b, .int .i64 v] w fun e w' => e = .returned (.tuple #[.slice none 0 0, subV S0 none 0 none 0 none 0, .int .i64 2]) ∧ Stays (only x) w w' := by
  have hxw : x < w.heap.size := lt_of_block hrd
  have KA : Hid (∀ wx, Calls Try.prog 25 #[.int .i64 b, .int .i64 v] wx fun e w' => e = .returned (.bool true) ∧ w' = wx) := fun wx => s_areOf b v true (tt_iff ⟨hb, hv⟩) wx
  have H0 : Hid (HDS w x s a (w.alloc (.cells (subC ⟨0, 0, 0, 0, 0, [], R0⟩ none 0 none 0 none 0) 26))) := HDS.start hrd
  have kh0 := fun wx hh => s_rhead x s hs a ha b v hb.1 hv.1 wx hh
  clear hrd
  have hha := head10_again hv.1 hhd
  have hal := head_le hv.1 hhd ha
  have hn0 : 0 ≤ n ∧ n < v := hha.2.2.1
  have KH : Hid (∀ wx, Rd wx x s a → Calls Try.prog 26 #[.pointer (some ⟨x, 0, none⟩), .int .i64 b, .int .i64 v] wx fun e w' => Stays (only x) wx w' ∧ e = .returned (.tuple #[subV ⟨k, o, n, 0, 0, [], R0⟩ none 0 none 0 none 0, .bool true]) ∧ Rd w' x s a1) := fun wx hh => (kh0 wx hh).mono fun e w' h => by
    obtain ⟨h1, h2⟩ := h
    rw [hhd] at h2
    exact ⟨h1, h2⟩
  have kb0 := fun wx g h1 h2 h3 => s_rbody x s hs a1 hal b (v - n) hb.1 hb.2 (by omega) (by omega) g o n k hha.1 hha.2.1 wx h1 h2 h3
  clear kh0 hha hhd
  have KB : Hid (∀ wx g, Rd wx x s a1 → wx.heap[g]? = some (.cells (subC ⟨k, o, n, 0, 0, [], R0⟩ none 0 none 0 none 0) 26 (0, 0)) → x ≠ g → Calls Try.prog 27 #[.pointer (some ⟨x, 0, none⟩), .pointer (some ⟨g, 0, none⟩), .int .i64 b, .int .i64 (v - n)] wx fun e w' => Stays (XG x g) wx w' ∧ ∃ la lc ca cc pa pc ea ec, e = .returned (.tuple #[.slice la d.m.length lc, .bool true]) ∧ RowS wx.heap.size la lc d.m w' ∧ w'.heap[g]? = some (.cells (subC ⟨k, o, n, d.p, d.h, d.C, d.R⟩ ca cc pa pc ea ec) 26 (0, 0)) ∧ IntsAt w' ca d.C ∧ (d.C.length ≤ cc ∧ (ca = none → cc = 0)) ∧ RcAt w' d.R pa ea ∧ (Fr wx.heap.size ca ∧ Fr wx.heap.size pa ∧ Fr wx.heap.size ea) ∧ Rd w' x s d.a ∧ ∀ bb, blockOf la = some bb → blockOf ca ≠ some bb ∧ blockOf pa ≠ some bb ∧ blockOf ea ≠ some bb) := fun wx g h1 h2 h3 => (kb0 wx g h1 h2 h3).mono fun e w' h => by
    obtain ⟨h1, h2⟩ := h
    rw [hbd] at h2
    exact ⟨h1, h2⟩
  have KW : Hid (∀ wx la lc, IntsAt wx la d.m → Calls Try.prog 28 #[.slice la d.m.length lc, .int .i64 (v - n)] wx fun e w' => e = .returned (.bool false) ∧ w' = wx) := fun wx la lc hh => by
    have h := s_within d.m la lc (v - n - 1).toNat (by omega) false (ff_iff (by rw [show (((v - n - 1).toNat : Nat) : Int) + 1 = v - n by omega]; exact hall)) wx hh
    rw [show (((v - n - 1).toNat : Nat) : Int) + 1 = v - n by omega] at h
    exact h
  clear kb0 hbd hall
  go_enter Try.func13, Try.ntmps13
  go_upto_region 1 with fail
  generalize hwa : World.alloc _ _ = wa at *
  clear hwa
  go_wp2_with fail
  refine (KA.out _).mono ?_
  rintro e wy ⟨rfl, hwy⟩
  subst hwy
  clear KA
  have kh := KH.out _ H0.out.rd
  go_wp2_with fail
  refine kh.mono ?_
  rintro e w1 ⟨hst, rfl, hr1⟩
  have h1z : w1.heap[w.heap.size]? = some (.cells (subC ⟨0, 0, 0, 0, 0, [], R0⟩ none 0 none 0 none 0) 26 (0, 0)) := by rw [hst.block _ (lt_of_block H0.out.zb) (fun e => by have h3 : w.heap.size = x := e; omega)]; exact H0.out.zb
  have hbl : Below w1.heap.size w1 (w1.alloc (.cells (subC ⟨k, o, n, 0, 0, [], R0⟩ none 0 none 0 none 0) 26)) := (Below.refl _ _).alloc (Nat.le_refl _) _
  have hgw : w.heap.size < w1.heap.size := lt_of_block h1z
  have H2 : Hid ((w1.alloc (.cells (subC ⟨k, o, n, 0, 0, [], R0⟩ none 0 none 0 none 0) 26)).heap[w.heap.size]? = some (.cells (subC ⟨0, 0, 0, 0, 0, [], R0⟩ none 0 none 0 none 0) 26 (0, 0)) ∧ Stays (only x) w (w1.alloc (.cells (subC ⟨k, o, n, 0, 0, [], R0⟩ none 0 none 0 none 0) 26)) ∧ (w1.alloc (.cells (subC ⟨k, o, n, 0, 0, [], R0⟩ none 0 none 0 none 0) 26)).heap[w1.heap.size]? = some (.cells (subC ⟨k, o, n, 0, 0, [], R0⟩ none 0 none 0 none 0) 26 (0, 0)) ∧ Rd (w1.alloc (.cells (subC ⟨k, o, n, 0, 0, [], R0⟩ none 0 none 0 none 0) 26)) x s a1) :=
    ⟨by rw [hbl.block _ hgw]; exact h1z, (H0.out.st.trans hst (fun _ _ h => h)).trans (Stays.of_below hbl (only x)) (fun _ _ h => h), heap_alloc_new _ _, hr1.below hbl⟩
  clear kh hst H0 hr1 h1z hbl
  go_upto_region 4 with fail
  generalize hwb : World.alloc _ _ = w2 at *
  clear hwb
  generalize w1.heap.size = g at *
  have hxg : x ≠ g := by omega
  obtain ⟨x0, x1, x2, x3, x4, x5, x6, x7, x8, x9⟩ := sub_cells H2.out.2.2.1
  have kb := KB.out w2 g H2.out.2.2.2 H2.out.2.2.1 hxg
  clear KB
  go_wp2_with fail
  refine kb.mono ?_
  rintro e w3 ⟨hst, la, lc, ca, cc, pa, pc, ea, ec, rfl, r1, r2, r3, r4, r5, r6, r7, r8⟩
  have H3 : Hid (w3.heap[w.heap.size]? = some (.cells (subC ⟨0, 0, 0, 0, 0, [], R0⟩ none 0 none 0 none 0) 26 (0, 0)) ∧ Stays (only x) w w3) := ⟨by rw [hst.block _ (lt_of_block H2.out.1) (fun e => by rcases e with e | e <;> omega)]; exact H2.out.1, H2.out.2.1.trans hst (fun i hi e => by rcases e with e | e; exact e; omega)⟩
  have HSZ : Hid (w.heap.size ≤ w2.heap.size) := H2.out.2.1.size
  have HR : Hid (RowS w2.heap.size la lc d.m w3 ∧ w3.heap[g]? = some (.cells (subC ⟨k, o, n, d.p, d.h, d.C, d.R⟩ ca cc pa pc ea ec) 26 (0, 0)) ∧ IntsAt w3 ca d.C ∧ (d.C.length ≤ cc ∧ (ca = none → cc = 0)) ∧ RcAt w3 d.R pa ea ∧ (Fr w2.heap.size ca ∧ Fr w2.heap.size pa ∧ Fr w2.heap.size ea) ∧ Rd w3 x s d.a ∧ ∀ bb, blockOf la = some bb → blockOf ca ≠ some bb ∧ blockOf pa ≠ some bb ∧ blockOf ea ≠ some bb) := ⟨r1, r2, r3, r4, r5, r6, r7, r8⟩
  have hg2 : g < w2.heap.size := lt_of_block H2.out.2.2.1
  clear kb hst H2 x0 x1 x2 x3 x4 x5 x6 x7 x8 x9 r1 r2 r3 r4 r5 r6 r7 r8
  obtain ⟨x0, x1, x2, x3, x4, x5, x6, x7, x8, x9⟩ := sub_cells HR.out.2.1
  have kw := KW.out w3 la lc HR.out.1.ints
  clear KW
  have hdl := HR.out.1.len
  go_wp2_with fail
  refine kw.mono ?_
  rintro e w4 ⟨rfl, hw4⟩
  subst hw4
  clear kw
  clear x0 x1 x2 x3 x4 x5 x6 x7 x8 x9
  obtain ⟨x0, x1, x2, x3, x4, x5, x6, x7, x8, x9⟩ := sub_cells H3.out.1
  have fu0 := row_frozen H3.out.1 0
  have fu1 := row_frozen H3.out.1 1
  have fu2 := row_frozen H3.out.1 2
  have fu3 := row_frozen H3.out.1 3
  have fu4 := row_frozen H3.out.1 4
  have fu5 := row_frozen H3.out.1 5
  have fu6 := row_frozen H3.out.1 6
  have fu7 := row_frozen H3.out.1 7
  have fu8 := row_frozen H3.out.1 8
  have fu9 := row_frozen H3.out.1 9
  go_wp2_with fail
  generalize hwf : World.setCell _ _ _ = wf
  have hH : wf.heap[w.heap.size]? = some (.cells (subC ⟨0, 0, 0, 0, 0, [], R0⟩ none 0 none 0 none 0) 26 (0, 0)) := by rw [← hwf]; exact set10_a _ _ _ _ _ _ _ _ _ _ _ H3.out.1
  have hS : Stays (only x) w wf := by rw [← hwf]; exact set10_c _ _ _ _ _ _ _ _ _ _ _ _ _ (Or.inr (Nat.le_refl _)) H3.out.2
  refine bodyPost_ret (v := .tuple #[.slice none 0 0, .agg (subC ⟨0, 0, 0, 0, 0, [], R0⟩ none 0 none 0 none 0), .int .i64 2]) ?_ rfl ⟨rfl, hS⟩
  rw [results_mid rfl]
  have hl0 := run_loadVar_row (P := Try.prog) (wf) (w.heap.size) 26 26 (subC ⟨0, 0, 0, 0, 0, [], R0⟩ none 0 none 0 none 0) (0, 0) _ hH Try.underlying26 rfl info_Sub
  simp [asAddr, Result.andThen, hl0]

end Go.Proofs.Ytkhdkmdiblomhaa
