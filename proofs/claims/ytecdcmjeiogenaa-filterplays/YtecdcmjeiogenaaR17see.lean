/- Own text: a step of the document's sees a number. -/
import Derived.Test.YtecdcmjeiogenaaR17tell
import Derived.Test.YtecdcmjeiogenaaP17reg
namespace Go.Proofs.Ytecdcmjeiogenaa
open Go.RowKit
set_option linter.unusedSimpArgs false
set_option linter.unusedVariables false

theorem results_none {fn : Func} (h : fn.results = #[]) (tmps : Array Value) (P : Program) (w : World) : (results fn tmps).run P w = .ok (.tuple #[]) w := by
  simp only [results, h]
  simp [Sem.run_bind, Result.andThen]
theorem wrap_16 (n : Int) : IntKind.i16.wrap n = w16 n := by
  unfold w16
  simp [IntKind.wrap, IntKind.bits, IntKind.signed]
  split <;> omega
theorem tail_own {w : World} {B m : Nat} {v : Value} {x : Int} {D : List Int} (h : w.ownsRow B 3 1 v (1 + m) ([.int .i64 x] ++ intsC D)) (hm : D.length = m) (hm2 : m ≤ 100000) (hn : ∀ n ∈ x :: D, -9223372036854775808 ≤ n ∧ n ≤ 9223372036854775807) :
    ∃ g cap, v = .slice (some ⟨g, 0, none⟩) (1 + m) cap ∧ (B ≤ g ∧ g < w.heap.size ∧ 1 + m ≤ cap ∧ IntsAt w (some ⟨g, 0, none⟩) (x :: D)) := by
  rcases h.2 with ⟨_, h0⟩ | ⟨g, cap, cur, hv, hb, hg, hc, _⟩
  · omega
  · subst hv
    have hl : (x :: D).length = 1 + m := by rw [List.length_cons, hm]; omega
    refine ⟨g, cap, rfl, hb, lt_of_block hg, hc, own_ints (N := B) (cap := cap) (L := x :: D) ?_ (by omega) hn⟩
    rw [hl]
    exact h
theorem sg_of {a b : Int} (ha : -1 ≤ a ∧ a ≤ 1) (hb : -1 ≤ b ∧ b ≤ 1) : IntKind.i64.wrap (a * b) = a * b := by
  rw [wrap_is]
  have : -1 ≤ a * b ∧ a * b ≤ 1 := by
    obtain rfl | rfl | rfl : a = -1 ∨ a = 0 ∨ a = 1 := by omega
    all_goals omega
  unfold wrap64; omega
theorem sg_in {a b : Int} (ha : -1 ≤ a ∧ a ≤ 1) (hb : -1 ≤ b ∧ b ≤ 1) : -1 ≤ a * b ∧ a * b ≤ 1 := by
  obtain rfl | rfl | rfl : a = -1 ∨ a = 0 ∨ a = 1 := by omega
  all_goals omega
theorem sg8_of {a b : Int} (ha : -1 ≤ a ∧ a ≤ 1) (hb : -1 ≤ b ∧ b ≤ 1) : IntKind.i64.wrap (a * b * 8) = a * b * 8 := by
  rw [wrap_is]; have := sg_in ha hb; unfold wrap64; omega
theorem sgx_of {a b x : Int} (ha : -1 ≤ a ∧ a ≤ 1) (hb : -1 ≤ b ∧ b ≤ 1) (hx : In16 x) : IntKind.i64.wrap (x + a * b * 8) = x + a * b * 8 := by
  rw [wrap_is]; have := sg_in ha hb; unfold In16 at hx; unfold wrap64; omega
theorem grI_in (left : Int) (W S : List Int) (hW : ∀ w ∈ W, In16 w) (k j : Nat) (hk : k ≤ W.length) (hj : j < W.length) : In16 ((grI left W S k).getD j 0) := by
  rw [grI_at left W S k j hk]
  split
  · exact w16_in _
  · exact hW _ (getD_mem W j hj)
section
variable {w w' : World} {g bw bs cs : Nat} {W S : List Int}
/-- A weight is another one. -/
theorem StpAt.setW (h : StpAt w g bw bs cs ⟨W, S⟩) (k : Nat) (hk : k < W.length) (v : Int) : StpAt (w.setCell ⟨bw, k, none⟩ (.int .i64 v)) g bw bs cs ⟨W.set k v, S⟩ := by
  obtain ⟨cw, h1, h2⟩ := h.wts
  have hb := h.box.h
  have o : ∀ b, b ≠ bw → (w.setCell ⟨bw, k, none⟩ (.int .i64 v)).heap[b]? = w.heap[b]? := fun b hb => Below.heap_setCell w ⟨bw, k, none⟩ _ b hb
  refine ⟨⟨?_⟩, ⟨cw.setIfInBounds k (.int .i64 v), heap_setCell_same _ _ _ _ _ _ h1, fun j hj => ?_⟩, ⟨h.saw.len, h.saw.num, fun h0 => ?_⟩, h.cap, h.ne1, h.ne2, h.ne3, by simpa using h.lts⟩
  · rw [o g (fun e => h.ne1 e.symm), hb]
    simp only [List.length_set]
  · have hj' : j < W.length := by simpa using hj
    rw [getD_set _ _ _ _ hk, Array.getElem?_setIfInBounds]
    by_cases e : k = j
    · subst e
      have hlt : k < cw.size := by
        rcases Nat.lt_or_ge k cw.size with h3 | h3
        · exact h3
        · have := h2 k hk; rw [Array.getElem?_eq_none h3] at this; cases this
      rw [if_pos rfl, if_pos hlt, if_pos rfl]
    · rw [if_neg e, if_neg (fun q => e q.symm)]; exact h2 j hj'
  · obtain ⟨b, off, e, hc⟩ := h.saw.lies h0
    cases e
    exact ⟨bs, 0, rfl, fun j hj => (World.cell?_of_block (w := w) (o bs h.ne3)).trans (hc j hj)⟩
/-- What it saw is another list, at another place. -/
theorem StpAt.setS (h : StpAt w g bw bs cs ⟨W, S⟩) {S2 : List Int} {b2 c2 : Nat} (hs : IntsAt w (some ⟨b2, 0, none⟩) S2) (hc : S2.length ≤ c2) (hg : b2 ≠ g) (hbw : b2 ≠ bw) (hl : b2 < w.heap.size) : StpAt (w.setCell ⟨g, 1, none⟩ (.slice (some ⟨b2, 0, none⟩) S2.length c2)) g bw b2 c2 ⟨W, S2⟩ := by
  obtain ⟨cw, h1, h2⟩ := h.wts
  have o : ∀ b, b ≠ g → (w.setCell ⟨g, 1, none⟩ (.slice (some ⟨b2, 0, none⟩) S2.length c2)).heap[b]? = w.heap[b]? := fun b hb => Below.heap_setCell w ⟨g, 1, none⟩ _ b hb
  refine ⟨⟨heap_setCell_same _ _ _ _ _ _ h.box.h⟩, ⟨cw, (o bw h.ne1).trans h1, h2⟩, ⟨hs.len, hs.num, fun h0 => ?_⟩, hc, h.ne1, hg, hbw, by simpa using hl⟩
  obtain ⟨b, off, e, hc⟩ := hs.lies h0
  cases e
  exact ⟨b2, 0, rfl, fun j hj => (World.cell?_of_block (w := w) (o b2 hg)).trans (hc j hj)⟩
end
/-- A step behind a number. -/
def SeeP (w : World) (g bw : Nat) (s : Stp) (w' : World) : Prop := ∃ b2 c2, StpAt w' g bw b2 c2 s ∧ w.heap.size ≤ b2
attribute [local go_sem] Oper.semAt_some
set_option maxRecDepth 20000 in
set_option maxHeartbeats 3200000 in
theorem xsee {w : World} {g bw bs cs t : Nat} {s : Stp} (hk : StpOk t s) (ht : t ≤ 32) (h : StpAt w g bw bs cs s) (x left : Int) (hx : In32 x) : Calls Try.prog 32 #[.pointer (some ⟨g, 0, none⟩), .int .i64 x, .int .i64 left] w fun e w' => e = .returned (.tuple #[]) ∧ SeeP w g bw (seeS s x left) w' ∧ Stays (fun b => b = g ∨ b = bw) w w' := by
  obtain ⟨W, Z⟩ := s
  have HS := hid h
  have HK := hid hk
  obtain ⟨lw, hlw⟩ : ∃ n, n = W.length := ⟨_, rfl⟩
  obtain ⟨ls, hls⟩ : ∃ n, n = Z.length := ⟨_, rfl⟩
  have hwt : lw ≤ 32 := by have := hk.wl; dsimp only at this; omega
  have hst : lw ≤ ls := by have := hk.wl; have := hk.sl; dsimp only at *; omega
  have hs1 : 0 < ls := by have := hk.sl; dsimp only at this; omega
  have hs2 : ls ≤ 32 := by have := hk.sl; dsimp only at this; omega
  have HLW := hid hlw
  have HLS := hid hls
  clear h hk hlw hls
  go_enter Try.func32, Try.ntmps32
  go_wp2_with fail
  go_loopw [6] (fun s6 wr => ∃ k : Nat, k ≤ lw ∧ s6 = .int .i64 (k : Int) ∧ StpAt wr g bw bs cs ⟨grI left W Z k, Z⟩ ∧ Stays (fun b => b = bw) w wr) (fun s6 _ => lw - (intOf s6).toNat)
  case atStart => exact ⟨0, Nat.zero_le _, rfl, HS.out, Stays.refl _ _⟩
  case round =>
    obtain ⟨k, hk, rfl, hq, hsy⟩ := hrel
    have HQ := hid hq
    have HY := hid hsy
    have c0 : wr.cell? ⟨g, 0, none⟩ = some (.slice (some ⟨bw, 0, none⟩) lw lw) := by have := hq.box.c 0 _ rfl; rw [this]; simp [grI_len, HLW.out]
    have c1 : wr.cell? ⟨g, 1, none⟩ = some (.slice (some ⟨bs, 0, none⟩) ls cs) := by have := hq.box.c 1 _ rfl; rw [this]; simp [HLS.out]
    clear hq hsy
    by_cases hlt : k < lw
    · have hks : k < ls := by omega
      have r1 := HQ.out.wc k (by rw [grI_len, ← HLW.out]; exact hlt)
      have r2 := HQ.out.sc k (by rw [← HLS.out]; exact hks)
      have hx0 := grI_in left W Z HK.out.wi k k (by rw [← HLW.out]; exact hk) (by rw [← HLW.out]; exact hlt)
      have hsl := sgn_in left
      have hsy := sgn_in (Z.getD k 0)
      obtain ⟨v0, hv⟩ : ∃ v, v = w16 ((grI left W Z k).getD k 0 + sgn left * sgn (Z.getD k 0) * 8) := ⟨_, rfl⟩
      have hv0 : IntKind.i64.wrap v0 = v0 := by have := w16_in ((grI left W Z k).getD k 0 + sgn left * sgn (Z.getD k 0) * 8); rw [← hv] at this; unfold In16 at this; rw [wrap_is]; unfold wrap64; omega
      have HG : Hid (grI left W Z (k + 1) = (grI left W Z k).set k v0) := by show _ = _; rw [hv]; rfl
      have hfz : ∀ wx : World, wx = wr.drew → wx.frozen? ⟨bw, k, none⟩ = false := fun wx e => by obtain ⟨cw, h1, _⟩ := HQ.out.wts; rw [e]; exact fz_of (w := wr.drew) h1 k
      have hfz := hfz _ rfl
      have rw1 : wr.drew.cell? ⟨bw, k, none⟩ = some (.int .i64 ((grI left W Z k).getD k 0)) := r1
      have HN : Hid (StpAt (wr.drew.setCell ⟨bw, k, none⟩ (.int .i64 v0)) g bw bs cs ⟨(grI left W Z k).set k v0, Z⟩) := (HQ.out.low (below_drew _)).setW k (by rw [grI_len, ← HLW.out]; exact hlt) v0
      have HN2 : Hid (Stays (fun b => b = bw) w (wr.drew.setCell ⟨bw, k, none⟩ (.int .i64 v0))) := HY.out.drew.setCell _ _ (.inl rfl)
      have HV : Hid (IntKind.i16.wrap ((grI left W Z k).getD k 0 + sgn left * sgn (Z.getD k 0) * 8) = v0) := by show _ = _; rw [hv]; exact wrap_16 _
      clear hv
      generalize (grI left W Z k).getD k 0 = x0 at *
      generalize Z.getD k 0 = y0 at *
      go_upto_region 3 with fail
      refine wp_region_Z (z := 28) (S := fun wx => Hid (wx = wr.drew)) (by kernel_rfl) (hid rfl) (fun hS => ?_)
      refine wpAnyZ_take (i := 0) (v := .pointer (some ⟨g, 0, none⟩)) rfl (by kernel_rfl) (by kernel_rfl) (by kernel_rfl) (by kernel_rfl) (fun _ _ _ h => h) (Or.inl ⟨by rfl, fun w hSw => by go_simp⟩) hS ?_
      simp only [Act.put, List.getElem_toArray, List.getElem_cons_succ, List.getElem_cons_zero, List.setIfInBounds_toArray, List.set_cons_zero, List.set_cons_succ]
      refine wpAnyZ_take (i := 1) (v := .pointer (some ⟨g, 0, none⟩)) rfl (by kernel_rfl) (by kernel_rfl) (by kernel_rfl) (by kernel_rfl) (fun _ _ _ h => h) (Or.inl ⟨by rfl, fun w hSw => by go_simp⟩) hS ?_
      simp only [Act.put, List.getElem_toArray, List.getElem_cons_succ, List.getElem_cons_zero, List.setIfInBounds_toArray, List.set_cons_zero, List.set_cons_succ]
      refine wpAnyZ_take (i := 2) (v := .pointer (some ⟨g, 0, none⟩)) rfl (by kernel_rfl) (by kernel_rfl) (by kernel_rfl) (by kernel_rfl) (fun _ _ _ h => h) (Or.inl ⟨by rfl, fun w hSw => by go_simp⟩) hS ?_
      simp only [Act.put, List.getElem_toArray, List.getElem_cons_succ, List.getElem_cons_zero, List.setIfInBounds_toArray, List.set_cons_zero, List.set_cons_succ]
      refine wpAnyZ_take (i := 3) (v := .slice (some ⟨bw, 0, none⟩) lw lw) rfl (by kernel_rfl) (by kernel_rfl) (by kernel_rfl) (by kernel_rfl) (fun _ _ _ h => h) (Or.inl ⟨by rfl, fun w hSw => by have d : w.cell? ⟨g, 0, none⟩ = some (.slice (some ⟨bw, 0, none⟩) lw lw) := (by rw [hSw.out]; exact c0); go_simp⟩) hS ?_
      simp only [Act.put, List.getElem_toArray, List.getElem_cons_succ, List.getElem_cons_zero, List.setIfInBounds_toArray, List.set_cons_zero, List.set_cons_succ]
      refine wpAnyZ_take (i := 4) (v := .int .i64 (k : Int)) rfl (by kernel_rfl) (by kernel_rfl) (by kernel_rfl) (by kernel_rfl) (fun _ _ _ h => h) (Or.inl ⟨by rfl, fun w hSw => by go_simp⟩) hS ?_
      simp only [Act.put, List.getElem_toArray, List.getElem_cons_succ, List.getElem_cons_zero, List.setIfInBounds_toArray, List.set_cons_zero, List.set_cons_succ]
      refine wpAnyZ_take (i := 5) (v := .pointer (some ⟨g, 0, none⟩)) rfl (by kernel_rfl) (by kernel_rfl) (by kernel_rfl) (by kernel_rfl) (fun _ _ _ h => h) (Or.inl ⟨by rfl, fun w hSw => by go_simp⟩) hS ?_
      simp only [Act.put, List.getElem_toArray, List.getElem_cons_succ, List.getElem_cons_zero, List.setIfInBounds_toArray, List.set_cons_zero, List.set_cons_succ]
      refine wpAnyZ_take (i := 6) (v := .pointer (some ⟨g, 0, none⟩)) rfl (by kernel_rfl) (by kernel_rfl) (by kernel_rfl) (by kernel_rfl) (fun _ _ _ h => h) (Or.inl ⟨by rfl, fun w hSw => by go_simp⟩) hS ?_
      simp only [Act.put, List.getElem_toArray, List.getElem_cons_succ, List.getElem_cons_zero, List.setIfInBounds_toArray, List.set_cons_zero, List.set_cons_succ]
      refine wpAnyZ_take (i := 7) (v := .pointer (some ⟨g, 0, none⟩)) rfl (by kernel_rfl) (by kernel_rfl) (by kernel_rfl) (by kernel_rfl) (fun _ _ _ h => h) (Or.inl ⟨by rfl, fun w hSw => by go_simp⟩) hS ?_
      simp only [Act.put, List.getElem_toArray, List.getElem_cons_succ, List.getElem_cons_zero, List.setIfInBounds_toArray, List.set_cons_zero, List.set_cons_succ]
      refine wpAnyZ_take (i := 8) (v := .slice (some ⟨bw, 0, none⟩) lw lw) rfl (by kernel_rfl) (by kernel_rfl) (by kernel_rfl) (by kernel_rfl) (fun _ _ _ h => h) (Or.inl ⟨by rfl, fun w hSw => by have d : w.cell? ⟨g, 0, none⟩ = some (.slice (some ⟨bw, 0, none⟩) lw lw) := (by rw [hSw.out]; exact c0); go_simp⟩) hS ?_
      simp only [Act.put, List.getElem_toArray, List.getElem_cons_succ, List.getElem_cons_zero, List.setIfInBounds_toArray, List.set_cons_zero, List.set_cons_succ]
      refine wpAnyZ_take (i := 9) (v := .int .i64 (k : Int)) rfl (by kernel_rfl) (by kernel_rfl) (by kernel_rfl) (by kernel_rfl) (fun _ _ _ h => h) (Or.inl ⟨by rfl, fun w hSw => by go_simp⟩) hS ?_
      simp only [Act.put, List.getElem_toArray, List.getElem_cons_succ, List.getElem_cons_zero, List.setIfInBounds_toArray, List.set_cons_zero, List.set_cons_succ]
      refine wpAnyZ_take (i := 10) (v := .pointer (some ⟨bw, k, none⟩)) rfl (by kernel_rfl) (by kernel_rfl) (by kernel_rfl) (by kernel_rfl) (fun _ _ _ h => h) (Or.inl ⟨by rfl, fun w hSw => by go_simp⟩) hS ?_
      simp only [Act.put, List.getElem_toArray, List.getElem_cons_succ, List.getElem_cons_zero, List.setIfInBounds_toArray, List.set_cons_zero, List.set_cons_succ]
      refine wpAnyZ_take (i := 11) (v := .int .i64 x0) rfl (by kernel_rfl) (by kernel_rfl) (by kernel_rfl) (by kernel_rfl) (fun _ _ _ h => h) (Or.inl ⟨by rfl, fun w hSw => by have d : w.cell? ⟨bw, k, none⟩ = some (.int .i64 x0) := (by rw [hSw.out]; exact r1); go_simp⟩) hS ?_
      simp only [Act.put, List.getElem_toArray, List.getElem_cons_succ, List.getElem_cons_zero, List.setIfInBounds_toArray, List.set_cons_zero, List.set_cons_succ]
      refine wpAnyZ_take (i := 12) (v := .int .i64 left) rfl (by kernel_rfl) (by kernel_rfl) (by kernel_rfl) (by kernel_rfl) (fun _ _ _ h => h) (Or.inl ⟨by rfl, fun w hSw => by go_simp⟩) hS ?_
      simp only [Act.put, List.getElem_toArray, List.getElem_cons_succ, List.getElem_cons_zero, List.setIfInBounds_toArray, List.set_cons_zero, List.set_cons_succ]
      refine wpAnyZ_take (i := 14) (v := .pointer (some ⟨g, 0, none⟩)) rfl (by kernel_rfl) (by kernel_rfl) (by kernel_rfl) (by kernel_rfl) (fun _ _ _ h => h) (Or.inl ⟨by rfl, fun w hSw => by go_simp⟩) hS ?_
      simp only [Act.put, List.getElem_toArray, List.getElem_cons_succ, List.getElem_cons_zero, List.setIfInBounds_toArray, List.set_cons_zero, List.set_cons_succ]
      refine wpAnyZ_take (i := 15) (v := .pointer (some ⟨g, 0, none⟩)) rfl (by kernel_rfl) (by kernel_rfl) (by kernel_rfl) (by kernel_rfl) (fun _ _ _ h => h) (Or.inl ⟨by rfl, fun w hSw => by go_simp⟩) hS ?_
      simp only [Act.put, List.getElem_toArray, List.getElem_cons_succ, List.getElem_cons_zero, List.setIfInBounds_toArray, List.set_cons_zero, List.set_cons_succ]
      refine wpAnyZ_take (i := 16) (v := .pointer (some ⟨g, 1, none⟩)) rfl (by kernel_rfl) (by kernel_rfl) (by kernel_rfl) (by kernel_rfl) (fun _ _ _ h => h) (Or.inl ⟨by rfl, fun w hSw => by go_simp⟩) hS ?_
      simp only [Act.put, List.getElem_toArray, List.getElem_cons_succ, List.getElem_cons_zero, List.setIfInBounds_toArray, List.set_cons_zero, List.set_cons_succ]
      refine wpAnyZ_take (i := 17) (v := .slice (some ⟨bs, 0, none⟩) ls cs) rfl (by kernel_rfl) (by kernel_rfl) (by kernel_rfl) (by kernel_rfl) (fun _ _ _ h => h) (Or.inl ⟨by rfl, fun w hSw => by have d : w.cell? ⟨g, 1, none⟩ = some (.slice (some ⟨bs, 0, none⟩) ls cs) := (by rw [hSw.out]; exact c1); go_simp⟩) hS ?_
      simp only [Act.put, List.getElem_toArray, List.getElem_cons_succ, List.getElem_cons_zero, List.setIfInBounds_toArray, List.set_cons_zero, List.set_cons_succ]
      refine wpAnyZ_take (i := 18) (v := .int .i64 (k : Int)) rfl (by kernel_rfl) (by kernel_rfl) (by kernel_rfl) (by kernel_rfl) (fun _ _ _ h => h) (Or.inl ⟨by rfl, fun w hSw => by go_simp⟩) hS ?_
      simp only [Act.put, List.getElem_toArray, List.getElem_cons_succ, List.getElem_cons_zero, List.setIfInBounds_toArray, List.set_cons_zero, List.set_cons_succ]
      refine wpAnyZ_take (i := 19) (v := .pointer (some ⟨bs, k, none⟩)) rfl (by kernel_rfl) (by kernel_rfl) (by kernel_rfl) (by kernel_rfl) (fun _ _ _ h => h) (Or.inl ⟨by rfl, fun w hSw => by go_simp⟩) hS ?_
      simp only [Act.put, List.getElem_toArray, List.getElem_cons_succ, List.getElem_cons_zero, List.setIfInBounds_toArray, List.set_cons_zero, List.set_cons_succ]
      refine wpAnyZ_take (i := 20) (v := .int .i64 y0) rfl (by kernel_rfl) (by kernel_rfl) (by kernel_rfl) (by kernel_rfl) (fun _ _ _ h => h) (Or.inl ⟨by rfl, fun w hSw => by have d : w.cell? ⟨bs, k, none⟩ = some (.int .i64 y0) := (by rw [hSw.out]; exact r2); go_simp⟩) hS ?_
      simp only [Act.put, List.getElem_toArray, List.getElem_cons_succ, List.getElem_cons_zero, List.setIfInBounds_toArray, List.set_cons_zero, List.set_cons_succ]
      refine wpAnyZ_ready (rs := [13]) (by kernel_rfl) (by simp) ?_
      refine AllReadyZ.cons rfl (fun K hK => ?_) AllReadyZ.nil
      go_simp
      refine (xsign left _).mono ?_
      rintro e w2 ⟨rfl, rfl⟩
      refine hK.out _ _ (fun _ => hid rfl) ?_
      clear hK K
      try simp only [Act.put, List.getElem_toArray, List.getElem_cons_succ, List.getElem_cons_zero, List.setIfInBounds_toArray, List.set_cons_zero, List.set_cons_succ]
      refine wpAnyZ_ready (rs := [21]) (by kernel_rfl) (by simp) ?_
      refine AllReadyZ.cons rfl (fun K hK => ?_) AllReadyZ.nil
      go_simp
      refine (xsign y0 _).mono ?_
      rintro e w2 ⟨rfl, rfl⟩
      refine hK.out _ _ (fun _ => hid rfl) ?_
      clear hK K
      try simp only [Act.put, List.getElem_toArray, List.getElem_cons_succ, List.getElem_cons_zero, List.setIfInBounds_toArray, List.set_cons_zero, List.set_cons_succ]
      generalize sgn left = sl at *
      generalize sgn y0 = sy at *
      refine wpAnyZ_take (i := 22) (v := .int .i64 (sl * sy)) rfl (by kernel_rfl) (by kernel_rfl) (by kernel_rfl) (by kernel_rfl) (fun _ _ _ h => h) (Or.inl ⟨by rfl, fun w hSw => by go_simp <;> exact sg_of hsl hsy⟩) hS ?_
      simp only [Act.put, List.getElem_toArray, List.getElem_cons_succ, List.getElem_cons_zero, List.setIfInBounds_toArray, List.set_cons_zero, List.set_cons_succ]
      refine wpAnyZ_take (i := 23) (v := .int .i64 (sl * sy * 8)) rfl (by kernel_rfl) (by kernel_rfl) (by kernel_rfl) (by kernel_rfl) (fun _ _ _ h => h) (Or.inl ⟨by rfl, fun w hSw => by go_simp <;> exact sg8_of hsl hsy⟩) hS ?_
      simp only [Act.put, List.getElem_toArray, List.getElem_cons_succ, List.getElem_cons_zero, List.setIfInBounds_toArray, List.set_cons_zero, List.set_cons_succ]
      refine wpAnyZ_take (i := 24) (v := .int .i64 (x0 + sl * sy * 8)) rfl (by kernel_rfl) (by kernel_rfl) (by kernel_rfl) (by kernel_rfl) (fun _ _ _ h => h) (Or.inl ⟨by rfl, fun w hSw => by go_simp <;> exact sgx_of hsl hsy hx0⟩) hS ?_
      simp only [Act.put, List.getElem_toArray, List.getElem_cons_succ, List.getElem_cons_zero, List.setIfInBounds_toArray, List.set_cons_zero, List.set_cons_succ]
      refine wpAnyZ_take (i := 25) (v := .int .i16 v0) rfl (by kernel_rfl) (by kernel_rfl) (by kernel_rfl) (by kernel_rfl) (fun _ _ _ h => h) (Or.inl ⟨by rfl, fun w hSw => by go_simp <;> exact HV.out⟩) hS ?_
      simp only [Act.put, List.getElem_toArray, List.getElem_cons_succ, List.getElem_cons_zero, List.setIfInBounds_toArray, List.set_cons_zero, List.set_cons_succ]
      refine wpAnyZ_take (i := 26) (v := .int .i64 v0) rfl (by kernel_rfl) (by kernel_rfl) (by kernel_rfl) (by kernel_rfl) (fun _ _ _ h => h) (Or.inl ⟨by rfl, fun w hSw => by go_simp <;> exact hv0⟩) hS ?_
      simp only [Act.put, List.getElem_toArray, List.getElem_cons_succ, List.getElem_cons_zero, List.setIfInBounds_toArray, List.set_cons_zero, List.set_cons_succ]
      refine wpAnyZ_take (i := 27) (v := .pointer (some ⟨bw, k, none⟩)) rfl (by kernel_rfl) (by kernel_rfl) (by kernel_rfl) (by kernel_rfl) (fun _ _ _ h => h) (Or.inl ⟨by rfl, fun w hSw => by go_simp⟩) hS ?_
      simp only [Act.put, List.getElem_toArray, List.getElem_cons_succ, List.getElem_cons_zero, List.setIfInBounds_toArray, List.set_cons_zero, List.set_cons_succ]
      refine wpAnyZ_ready (rs := [28]) (by kernel_rfl) (by simp) ?_
      refine AllReadyZ.cons rfl (fun K hK => ?_) AllReadyZ.nil
      go_simp
      refine hK.out _ _ (fun h => absurd rfl h) ?_
      clear hK K
      refine wpAnyZ_done (by kernel_rfl) ?_ _
      go_wp2_with fail
      go_roundw
      case rel => exact ⟨k + 1, by omega, by go_num, by rw [HG.out]; exact HN.out, HN2.out⟩
      case measure => simp [intOf]; omega
    · have hke : k = lw := by omega
      subst hke
      have HQ2 : Hid (StpAt wr g bw bs cs ⟨growN left W Z, Z⟩) := by have := HQ.out; rw [HLW.out, grI_all left W Z (by rw [← HLW.out, ← HLS.out]; exact hst)] at this; exact this
      obtain ⟨lm, hlm⟩ : ∃ lm, ls = lm + 1 := ⟨ls - 1, by omega⟩
      have hcs : lm + 1 ≤ cs := by have := HS.out.cap; dsimp only at this; rw [← HLS.out] at this; omega
      subst hlm
      obtain ⟨iI, hI0, hI1, hI2, hI3⟩ := int_info
      have HII : Hid (Try.prog.info? 3 = some iI ∧ iI.zero = some (.int .i64 0) ∧ iI.size = 1 ∧ iI.bytes = 8) := ⟨hI0, hI1, hI2, hI3⟩
      clear hI0 hI1 hI2 hI3
      have HR : Hid (∀ n ∈ x :: Z.dropLast, -9223372036854775808 ≤ n ∧ n ≤ 9223372036854775807) := by
        intro n hn
        rcases List.mem_cons.1 hn with rfl | hn
        · unfold In32 at hx; omega
        · exact HQ2.out.saw.num n (List.dropLast_subset _ hn)
      have HD : Hid (∀ wx, Below wr.heap.size wr wx → IntsAt wx (some ⟨bs, 0, none⟩) Z.dropLast) := fun wx hb => by
        have h1 := (HQ2.out.low hb).saw.part 0 lm (by dsimp only; rw [← HLS.out]; omega) (some ⟨bs, 0, none⟩) (fun b off e _ => by cases e; rfl)
        have e : Z.dropLast = (Z.drop 0).take lm := by rw [List.drop_zero, List.dropLast_eq_take, ← HLS.out]; rfl
        rw [e]; exact h1
      go_upto_region 4 with fail
      refine wp_region_Z (z := 17) (S := fun wx => Hid (Below wr.heap.size wr wx)) (by kernel_rfl) (hid (below_drew _)) (fun hS => ?_)
      refine wpAnyZ_take (i := 0) (v := .pointer (some ⟨g, 0, none⟩)) rfl (by kernel_rfl) (by kernel_rfl) (by kernel_rfl) (by kernel_rfl) (fun _ _ _ h => h) (Or.inl ⟨by rfl, fun w hSw => by go_simp⟩) hS ?_
      simp only [Act.put, List.getElem_toArray, List.getElem_cons_succ, List.getElem_cons_zero, List.setIfInBounds_toArray, List.set_cons_zero, List.set_cons_succ]
      refine wpAnyZ_take (i := 1) (v := .int .i64 x) rfl (by kernel_rfl) (by kernel_rfl) (by kernel_rfl) (by kernel_rfl) (fun _ _ _ h => h) (Or.inl ⟨by rfl, fun w hSw => by go_simp⟩) hS ?_
      simp only [Act.put, List.getElem_toArray, List.getElem_cons_succ, List.getElem_cons_zero, List.setIfInBounds_toArray, List.set_cons_zero, List.set_cons_succ]
      refine wpAnyZ_take (i := 3) (v := .pointer (some ⟨g, 0, none⟩)) rfl (by kernel_rfl) (by kernel_rfl) (by kernel_rfl) (by kernel_rfl) (fun _ _ _ h => h) (Or.inl ⟨by rfl, fun w hSw => by go_simp⟩) hS ?_
      simp only [Act.put, List.getElem_toArray, List.getElem_cons_succ, List.getElem_cons_zero, List.setIfInBounds_toArray, List.set_cons_zero, List.set_cons_succ]
      refine wpAnyZ_take (i := 4) (v := .pointer (some ⟨g, 0, none⟩)) rfl (by kernel_rfl) (by kernel_rfl) (by kernel_rfl) (by kernel_rfl) (fun _ _ _ h => h) (Or.inl ⟨by rfl, fun w hSw => by go_simp⟩) hS ?_
      simp only [Act.put, List.getElem_toArray, List.getElem_cons_succ, List.getElem_cons_zero, List.setIfInBounds_toArray, List.set_cons_zero, List.set_cons_succ]
      refine wpAnyZ_take (i := 5) (v := .pointer (some ⟨g, 1, none⟩)) rfl (by kernel_rfl) (by kernel_rfl) (by kernel_rfl) (by kernel_rfl) (fun _ _ _ h => h) (Or.inl ⟨by rfl, fun w hSw => by go_simp⟩) hS ?_
      simp only [Act.put, List.getElem_toArray, List.getElem_cons_succ, List.getElem_cons_zero, List.setIfInBounds_toArray, List.set_cons_zero, List.set_cons_succ]
      refine wpAnyZ_take (i := 6) (v := .slice (some ⟨bs, 0, none⟩) (lm + 1) cs) rfl (by kernel_rfl) (by kernel_rfl) (by kernel_rfl) (by kernel_rfl) (fun _ _ _ h => h) (Or.inl ⟨by rfl, fun w hSw => by have d : w.cell? ⟨g, 1, none⟩ = some (.slice (some ⟨bs, 0, none⟩) (lm + 1) cs) := low_cell hSw.out c1; go_simp⟩) hS ?_
      simp only [Act.put, List.getElem_toArray, List.getElem_cons_succ, List.getElem_cons_zero, List.setIfInBounds_toArray, List.set_cons_zero, List.set_cons_succ]
      refine wpAnyZ_take (i := 7) (v := .pointer (some ⟨g, 0, none⟩)) rfl (by kernel_rfl) (by kernel_rfl) (by kernel_rfl) (by kernel_rfl) (fun _ _ _ h => h) (Or.inl ⟨by rfl, fun w hSw => by go_simp⟩) hS ?_
      simp only [Act.put, List.getElem_toArray, List.getElem_cons_succ, List.getElem_cons_zero, List.setIfInBounds_toArray, List.set_cons_zero, List.set_cons_succ]
      refine wpAnyZ_take (i := 8) (v := .pointer (some ⟨g, 0, none⟩)) rfl (by kernel_rfl) (by kernel_rfl) (by kernel_rfl) (by kernel_rfl) (fun _ _ _ h => h) (Or.inl ⟨by rfl, fun w hSw => by go_simp⟩) hS ?_
      simp only [Act.put, List.getElem_toArray, List.getElem_cons_succ, List.getElem_cons_zero, List.setIfInBounds_toArray, List.set_cons_zero, List.set_cons_succ]
      refine wpAnyZ_take (i := 9) (v := .pointer (some ⟨g, 1, none⟩)) rfl (by kernel_rfl) (by kernel_rfl) (by kernel_rfl) (by kernel_rfl) (fun _ _ _ h => h) (Or.inl ⟨by rfl, fun w hSw => by go_simp⟩) hS ?_
      simp only [Act.put, List.getElem_toArray, List.getElem_cons_succ, List.getElem_cons_zero, List.setIfInBounds_toArray, List.set_cons_zero, List.set_cons_succ]
      refine wpAnyZ_take (i := 10) (v := .slice (some ⟨bs, 0, none⟩) (lm + 1) cs) rfl (by kernel_rfl) (by kernel_rfl) (by kernel_rfl) (by kernel_rfl) (fun _ _ _ h => h) (Or.inl ⟨by rfl, fun w hSw => by have d : w.cell? ⟨g, 1, none⟩ = some (.slice (some ⟨bs, 0, none⟩) (lm + 1) cs) := low_cell hSw.out c1; go_simp⟩) hS ?_
      simp only [Act.put, List.getElem_toArray, List.getElem_cons_succ, List.getElem_cons_zero, List.setIfInBounds_toArray, List.set_cons_zero, List.set_cons_succ]
      refine wpAnyZ_take (i := 11) (v := .int .i64 ((lm + 1 : Nat) : Int)) rfl (by kernel_rfl) (by kernel_rfl) (by kernel_rfl) (by kernel_rfl) (fun _ _ _ h => h) (Or.inl ⟨by rfl, fun w hSw => by go_simp⟩) hS ?_
      simp only [Act.put, List.getElem_toArray, List.getElem_cons_succ, List.getElem_cons_zero, List.setIfInBounds_toArray, List.set_cons_zero, List.set_cons_succ]
      refine wpAnyZ_take (i := 12) (v := .int .i64 (lm : Int)) rfl (by kernel_rfl) (by kernel_rfl) (by kernel_rfl) (by kernel_rfl) (fun _ _ _ h => h) (Or.inl ⟨by rfl, fun w hSw => by go_simp <;> (rw [wrap_is]; unfold wrap64; omega)⟩) hS ?_
      simp only [Act.put, List.getElem_toArray, List.getElem_cons_succ, List.getElem_cons_zero, List.setIfInBounds_toArray, List.set_cons_zero, List.set_cons_succ]
      refine wpAnyZ_take (i := 13) (v := .slice (some ⟨bs, 0, none⟩) lm cs) rfl (by kernel_rfl) (by kernel_rfl) (by kernel_rfl) (by kernel_rfl) (fun _ _ _ h => h) (Or.inl ⟨by rfl, fun w hSw => by go_simp <;> (intro q; omega)⟩) hS ?_
      simp only [Act.put, List.getElem_toArray, List.getElem_cons_succ, List.getElem_cons_zero, List.setIfInBounds_toArray, List.set_cons_zero, List.set_cons_succ]
      refine wpAnyZ_ready (rs := [2]) (by kernel_rfl) (by simp) ?_
      refine AllReadyZ.cons rfl (fun K hK => ?_) AllReadyZ.nil
      go_simp
      generalize hw5 : (World.alloc wr _).drew = w5
      have H5 : Hid (w5.ownsRow wr.heap.size 3 1 (.slice (some ⟨wr.heap.size, 0, none⟩) 1 1) 1 [.int .i64 x] ∧ Below wr.heap.size wr w5) := by
        rw [← hw5]
        exact ⟨World.ownsRow_lit (base := wr.heap.size) (e := 3) (size := 1) wr #[.int .i64 x] 1 (Nat.le_refl _) (by simp [maxLen]) rfl, ((Below.refl _ _).alloc (Nat.le_refl _) _).trans (below_on (Below.refl _ _) (by simp) (below_drew _))⟩
      refine hK.out _ _ (fun _ => hid H5.out.2) ?_
      clear hK K hw5
      try simp only [Act.put, List.getElem_toArray, List.getElem_cons_succ, List.getElem_cons_zero, List.setIfInBounds_toArray, List.set_cons_zero, List.set_cons_succ]
      refine wpAnyZ_ready (rs := [14]) (by kernel_rfl) (by simp) ?_
      refine AllReadyZ.cons rfl (fun K hK => ?_) AllReadyZ.nil
      refine step_append_own _ rfl (.tmp 46) (.tmp 57) 22 rfl wr.heap.size 3 iI (.int .i64 0) 1 8 undI3 HII.out.1 HII.out.2.1 HII.out.2.2.1 HII.out.2.2.2 rfl (by decide) (.slice (some ⟨wr.heap.size, 0, none⟩) 1 1) 1 _ rfl H5.out.1 ⟨bs, 0, none⟩ lm cs (intsC Z.dropLast) rfl (by rw [intsC_length, List.length_dropLast, ← HLS.out]; omega) ((HD.out w5 H5.out.2).news _ rfl) (intsC_one _) (by simp only [maxLen]; omega) (by omega) H5.out.2.size ?_
      intro v6 w6 ho6 hg6
      obtain ⟨b2, c2, rfl, h6⟩ := tail_own ho6.out (by rw [List.length_dropLast, ← HLS.out]; omega) (by omega) HR.out
      have HB6 : Hid (Below wr.heap.size wr w6) := grown_to hg6.out H5.out.2 H5.out.2.size (fun k e => (H5.out.1.lt k e).1)
      have H6 := hid h6
      refine hK.out _ _ (fun _ => hid HB6.out) ?_
      clear hK K ho6 hg6 h6
      try simp only [Act.put, List.getElem_toArray, List.getElem_cons_succ, List.getElem_cons_zero, List.setIfInBounds_toArray, List.set_cons_zero, List.set_cons_succ]
      refine wpAnyZ_ready (rs := [15]) (by kernel_rfl) (by simp) ?_
      refine AllReadyZ.cons rfl (fun K hK => ?_) AllReadyZ.nil
      go_simp
      refine hK.out _ _ (fun _ => hid HB6.out) ?_
      clear hK K
      try simp only [Act.put, List.getElem_toArray, List.getElem_cons_succ, List.getElem_cons_zero, List.setIfInBounds_toArray, List.set_cons_zero, List.set_cons_succ]
      refine wpAnyZ_take (i := 16) (v := .pointer (some ⟨g, 1, none⟩)) rfl (by kernel_rfl) (by kernel_rfl) (by kernel_rfl) (by kernel_rfl) (fun _ _ _ h => h) (Or.inl ⟨by rfl, fun w hSw => by go_simp⟩) (hid HB6.out) ?_
      simp only [Act.put, List.getElem_toArray, List.getElem_cons_succ, List.getElem_cons_zero, List.setIfInBounds_toArray, List.set_cons_zero, List.set_cons_succ]
      have HS6 := hid (HQ2.out.low HB6.out)
      have c1 := HS6.out.box.c 1 _ rfl
      have hfz := HS6.out.box.fz 1
      refine wpAnyZ_ready (rs := [17]) (by kernel_rfl) (by simp) ?_
      refine AllReadyZ.cons rfl (fun K hK => ?_) AllReadyZ.nil
      go_simp
      refine hK.out _ _ (fun h => absurd rfl h) ?_
      clear hK K
      refine wpAnyZ_done (by kernel_rfl) ?_ _
      go_wp2_with fail
      refine bodyPost_end (v := .tuple #[]) (results_none rfl _ _ _) rfl ?_
      have hbg := HS6.out.box.lt
      have hl2 : (x :: Z.dropLast).length = 1 + lm := by rw [List.length_cons, List.length_dropLast, ← HLS.out]; omega
      have h9 := HS6.out.setS (S2 := x :: Z.dropLast) (b2 := b2) (c2 := c2) H6.out.2.2.2 (by rw [hl2]; exact H6.out.2.2.1) (by have := HQ2.out.box.lt; have := H6.out.1; omega) (by have := HQ2.out.ltw; have := H6.out.1; omega) H6.out.2.1
      rw [hl2] at h9
      exact ⟨by rfl, ⟨b2, c2, h9, Nat.le_trans HY.out.size H6.out.1⟩, (((HY.out.mono (T := fun b => b = g ∨ b = bw) (fun _ _ => .inr)).trans (Stays.of_below HB6.out (fun b => b = g ∨ b = bw)) (fun _ _ q => q)).setCell _ _ (.inl (.inl rfl)))⟩


end Go.Proofs.Ytecdcmjeiogenaa
