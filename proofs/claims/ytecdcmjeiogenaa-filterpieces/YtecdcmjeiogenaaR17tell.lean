/- Own text: the document's steps in memory; what a step foretells. -/
import Derived.Test.YtecdcmjeiogenaaR17small
namespace Go.Proofs.Ytecdcmjeiogenaa
open Go.RowKit
set_option linter.unusedSimpArgs false
set_option linter.unusedVariables false

/-- A step of the document's in memory: its box (at g), its weights (at bw), the numbers that it saw (at bs). -/
structure StpAt (wx : World) (g bw bs cs : Nat) (s : Stp) : Prop where
  box : Box wx g #[.slice (some ⟨bw, 0, none⟩) s.W.length s.W.length, .slice (some ⟨bs, 0, none⟩) s.S.length cs] 59
  wts : ∃ cw : Array Value, wx.heap[bw]? = some (.cells cw 3 (0, 0)) ∧ ∀ j, j < s.W.length → cw[j]? = some (.int .i64 (s.W.getD j 0))
  saw : IntsAt wx (some ⟨bs, 0, none⟩) s.S
  cap : s.S.length ≤ cs
  ne1 : bw ≠ g
  ne2 : bs ≠ g
  ne3 : bs ≠ bw
  lts : bs < wx.heap.size
section
variable {w w' : World} {g bw bs cs : Nat} {s : Stp}
theorem StpAt.ltw (h : StpAt w g bw bs cs s) : bw < w.heap.size := by obtain ⟨cw, h1, _⟩ := h.wts; exact lt_of_block h1
theorem StpAt.keep (h : StpAt w g bw bs cs s) (hz : w.heap.size ≤ w'.heap.size) (hg : w'.heap[g]? = w.heap[g]?) (hw : w'.heap[bw]? = w.heap[bw]?) (hs : w'.heap[bs]? = w.heap[bs]?) : StpAt w' g bw bs cs s := by
  obtain ⟨cw, h1, h2⟩ := h.wts
  refine ⟨⟨hg.trans h.box.h⟩, ⟨cw, hw.trans h1, h2⟩, ⟨h.saw.len, h.saw.num, fun h0 => ?_⟩, h.cap, h.ne1, h.ne2, h.ne3, Nat.lt_of_lt_of_le h.lts hz⟩
  obtain ⟨b, off, e, hc⟩ := h.saw.lies h0
  cases e
  exact ⟨bs, 0, rfl, fun j hj => (World.cell?_of_block (w := w) hs).trans (hc j hj)⟩
theorem StpAt.low (h : StpAt w g bw bs cs s) (hb : Below w.heap.size w w') : StpAt w' g bw bs cs s := h.keep hb.size (hb.block _ h.box.lt) (hb.block _ h.ltw) (hb.block _ h.lts)
theorem StpAt.wc (h : StpAt w g bw bs cs s) (j : Nat) (hj : j < s.W.length) : w.cell? ⟨bw, j, none⟩ = some (.int .i64 (s.W.getD j 0)) := by
  obtain ⟨cw, h1, h2⟩ := h.wts
  rw [cell_row h1]; exact h2 j hj
theorem StpAt.sc (h : StpAt w g bw bs cs s) (j : Nat) (hj : j < s.S.length) : w.cell? ⟨bs, j, none⟩ = some (.int .i64 (s.S.getD j 0)) := by
  have := h.saw.get j hj
  rwa [Nat.zero_add] at this
end
theorem low_cell {w w' : World} {a : Addr} {v : Value} (hb : Below w.heap.size w w') (h : w.cell? a = some v) : w'.cell? a = some v := (World.cell?_of_block (w := w) (hb.block _ (lt_cell h))).trans h
/-- What is summed up of the first k weights. -/
def dotI (W S : List Int) : Nat → Int
  | 0 => 0
  | k + 1 => dotI W S k + W.getD k 0 * cut16 (S.getD k 0)
theorem dotI_cons (w s : Int) (W S : List Int) (k : Nat) : dotI (w :: W) (s :: S) (k + 1) = w * cut16 s + dotI W S k := by
  induction k with
  | zero => simp [dotI]
  | succ k ih =>
    rw [dotI, ih]
    simp only [dotI, List.getD_cons_succ]
    omega
theorem dotI_all (W S : List Int) (h : W.length ≤ S.length) : dotI W S W.length = dotN W S := by
  induction W generalizing S with
  | nil => cases S <;> rfl
  | cons w W ih =>
    cases S with
    | nil => simp at h
    | cons s S => rw [List.length_cons, dotI_cons, ih S (by simpa using h)]; rfl
theorem mul_in {a b : Int} (h2 : In16 a) (h3 : In16 b) : -1073741824 ≤ a * b ∧ a * b ≤ 1073741824 := by
  unfold In16 at h2 h3
  constructor
  · rcases Int.le_total 0 a with hw | hw
    · have := Int.mul_le_mul_of_nonneg_left h3.1 hw; omega
    · have := Int.mul_le_mul_of_nonpos_left hw h3.2; omega
  · rcases Int.le_total 0 a with hw | hw
    · have := Int.mul_le_mul_of_nonneg_left h3.2 hw; omega
    · have := Int.mul_le_mul_of_nonpos_left hw h3.1; omega
theorem dotI_in (W S : List Int) (hW : ∀ w ∈ W, In16 w) (k : Nat) (hk : k ≤ W.length) : -(1073741824 * (k : Int)) ≤ dotI W S k ∧ dotI W S k ≤ 1073741824 * (k : Int) := by
  induction k with
  | zero => simp [dotI]
  | succ k ih =>
    have h1 := ih (by omega)
    have h2 := mul_in (hW _ (getD_mem W k (by omega))) (cut16_in (S.getD k 0))
    simp only [dotI]
    omega
def mnN (n : Int) : Int := if 32767 < n then 32767 else n
theorem cut_of (n : Int) : (if -32768 < mnN n then mnN n else -32768) = cut16 n := by unfold cut16 mnN; (repeat' split) <;> omega
theorem wrap_of {n : Int} (h1 : -1073741824 ≤ n) (h2 : n ≤ 1073741824) : IntKind.i64.wrap n = n := by rw [wrap_is]; unfold wrap64; omega
theorem sum_of {d d2 p : Int} {k : Nat} (h : d2 = d + p) (hd : -(1073741824 * (k : Int)) ≤ d ∧ d ≤ 1073741824 * (k : Int)) (hp : -1073741824 ≤ p ∧ p ≤ 1073741824) (hk : k ≤ 32) : IntKind.i64.wrap (d + p) = d2 := by rw [wrap_is]; unfold wrap64; omega
attribute [local go_sem] Oper.semAt_some
set_option maxRecDepth 20000 in
set_option maxHeartbeats 3200000 in
theorem xtell {w : World} {g bw bs cs t : Nat} {s : Stp} (hk : StpOk t s) (ht : t ≤ 32) (h : StpAt w g bw bs cs s) : Calls Try.prog 31 #[.pointer (some ⟨g, 0, none⟩)] w fun e w' => e = .returned (.int .i64 (tellS s)) ∧ ∃ n, w' = w.drewN n := by
  have HS := hid h
  have HK := hid hk
  have HWL := hid hk.wl
  have HSL := hid hk.sl
  have hwt : s.W.length ≤ 32 := by have := hk.wl; omega
  have hst : s.W.length ≤ s.S.length := by have := hk.wl; have := hk.sl; omega
  have hs1 : 0 < s.S.length := by have := hk.sl; omega
  have c0 : w.cell? ⟨g, 0, none⟩ = some (.slice (some ⟨bw, 0, none⟩) s.W.length s.W.length) := h.box.c 0 _ rfl
  have c1 : w.cell? ⟨g, 1, none⟩ = some (.slice (some ⟨bs, 0, none⟩) s.S.length cs) := h.box.c 1 _ rfl
  clear h hk
  go_enter Try.func31, Try.ntmps31
  by_cases h0 : s.W.length = 0
  · have HT : Hid (tellS s = s.S.getD 0 0 * 31 / 32) := by
      show tellS s = _
      unfold tellS
      rw [if_pos (List.length_eq_zero_iff.1 h0)]
      cases s.S <;> rfl
    have hx := HS.out.sc 0 (by omega)
    have hr := HK.out.si _ (getD_mem s.S 0 (by omega))
    have h1 : 0 < s.S.length := by omega
    generalize s.S.getD 0 0 = x at *
    have HT2 : Hid (tellS s = wrap64 (x * 31) / 32) := by show _ = _; rw [HT.out, wrap_64, w64_id (by unfold In32 at hr; unfold In64; omega)]
    clear hr
    go_wp2_with fail
    go_ret
    exact ⟨by rw [HT2.out]; rfl, 0, rfl⟩
  · have HT : Hid (tellS s = dotI s.W s.S s.W.length / 8192) := by
      show tellS s = _
      unfold tellS
      rw [if_neg (fun e => h0 (by rw [e]; rfl)), dotI_all _ _ (by omega)]
    go_wp2_with fail
    go_loopw [3, 4] (fun s3 s4 wr => ∃ k n : Nat, k ≤ s.W.length ∧ s4 = .int .i64 (k : Int) ∧ s3 = .int .i64 (dotI s.W s.S k) ∧ wr = w.drewN n) (fun _ s4 _ => s.W.length - (intOf s4).toNat)
    case atStart => exact ⟨0, 0, Nat.zero_le _, rfl, rfl, rfl⟩
    case round =>
      obtain ⟨k, n, hk, rfl, rfl, hw⟩ := hrel
      have HW : Hid (wr = w.drewN n) := hw
      have hbw : Below w.heap.size w wr := by rw [HW.out]; exact below_drewN _ _
      have HB := hid (HS.out.low hbw)
      clear hw hbw c0 c1
      have c0 : wr.cell? ⟨g, 0, none⟩ = some (.slice (some ⟨bw, 0, none⟩) s.W.length s.W.length) := HB.out.box.c 0 _ rfl
      have c1 : wr.cell? ⟨g, 1, none⟩ = some (.slice (some ⟨bs, 0, none⟩) s.S.length cs) := HB.out.box.c 1 _ rfl
      by_cases hlt : k < s.W.length
      · have r1 := HB.out.wc k hlt
        have r2 := HB.out.sc k (by omega)
        have hks : k < s.S.length := by omega
        have hk32 : k ≤ 32 := by omega
        have HN : Hid (dotI s.W s.S (k + 1) = dotI s.W s.S k + s.W.getD k 0 * cut16 (s.S.getD k 0)) := rfl
        have hd := dotI_in s.W s.S HK.out.wi k hk
        have hd2 := mul_in (HK.out.wi _ (getD_mem s.W k hlt)) (cut16_in (s.S.getD k 0))
        have hy := HK.out.si _ (getD_mem s.S k hks)
        obtain ⟨d2, hd2e⟩ : ∃ d2, d2 = dotI s.W s.S (k + 1) := ⟨_, rfl⟩
        have HD2 := hid hd2e
        rw [← hd2e] at HN
        clear hd2e
        generalize dotI s.W s.S k = d at *
        generalize s.W.getD k 0 = x at *
        generalize s.S.getD k 0 = y at *
        go_wp2_with fail
        refine wp_region_held_drew (S := fun wx => Hid (Below wr.heap.size wr wx)) (by kernel_rfl) (hid (below_drew _)) (fun hS => ?_)
        refine wpAnyH_take (i := 0) (v := .int .i64 d) rfl (by kernel_rfl) (by kernel_rfl) (by kernel_rfl) (fun _ _ _ h => h) (Or.inl ⟨by rfl, fun w hSw => by go_simp⟩) hS ?_
        simp only [Act.put, List.getElem_toArray, List.getElem_cons_succ, List.getElem_cons_zero, List.setIfInBounds_toArray, List.set_cons_zero, List.set_cons_succ]
        refine wpAnyH_take (i := 1) (v := .pointer (some ⟨g, 0, none⟩)) rfl (by kernel_rfl) (by kernel_rfl) (by kernel_rfl) (fun _ _ _ h => h) (Or.inl ⟨by rfl, fun w hSw => by go_simp⟩) hS ?_
        simp only [Act.put, List.getElem_toArray, List.getElem_cons_succ, List.getElem_cons_zero, List.setIfInBounds_toArray, List.set_cons_zero, List.set_cons_succ]
        refine wpAnyH_take (i := 2) (v := .pointer (some ⟨g, 0, none⟩)) rfl (by kernel_rfl) (by kernel_rfl) (by kernel_rfl) (fun _ _ _ h => h) (Or.inl ⟨by rfl, fun w hSw => by go_simp⟩) hS ?_
        simp only [Act.put, List.getElem_toArray, List.getElem_cons_succ, List.getElem_cons_zero, List.setIfInBounds_toArray, List.set_cons_zero, List.set_cons_succ]
        refine wpAnyH_take (i := 3) (v := .pointer (some ⟨g, 0, none⟩)) rfl (by kernel_rfl) (by kernel_rfl) (by kernel_rfl) (fun _ _ _ h => h) (Or.inl ⟨by rfl, fun w hSw => by go_simp⟩) hS ?_
        simp only [Act.put, List.getElem_toArray, List.getElem_cons_succ, List.getElem_cons_zero, List.setIfInBounds_toArray, List.set_cons_zero, List.set_cons_succ]
        refine wpAnyH_take (i := 4) (v := .slice (some ⟨bw, 0, none⟩) s.W.length s.W.length) rfl (by kernel_rfl) (by kernel_rfl) (by kernel_rfl) (fun _ _ _ h => h) (Or.inl ⟨by rfl, fun w hSw => by have d : w.cell? ⟨g, 0, none⟩ = some (.slice (some ⟨bw, 0, none⟩) s.W.length s.W.length) := low_cell hSw.out c0; go_simp⟩) hS ?_
        simp only [Act.put, List.getElem_toArray, List.getElem_cons_succ, List.getElem_cons_zero, List.setIfInBounds_toArray, List.set_cons_zero, List.set_cons_succ]
        refine wpAnyH_take (i := 5) (v := .int .i64 (k : Int)) rfl (by kernel_rfl) (by kernel_rfl) (by kernel_rfl) (fun _ _ _ h => h) (Or.inl ⟨by rfl, fun w hSw => by go_simp⟩) hS ?_
        simp only [Act.put, List.getElem_toArray, List.getElem_cons_succ, List.getElem_cons_zero, List.setIfInBounds_toArray, List.set_cons_zero, List.set_cons_succ]
        refine wpAnyH_take (i := 6) (v := .pointer (some ⟨bw, k, none⟩)) rfl (by kernel_rfl) (by kernel_rfl) (by kernel_rfl) (fun _ _ _ h => h) (Or.inl ⟨by rfl, fun w hSw => by go_simp⟩) hS ?_
        simp only [Act.put, List.getElem_toArray, List.getElem_cons_succ, List.getElem_cons_zero, List.setIfInBounds_toArray, List.set_cons_zero, List.set_cons_succ]
        refine wpAnyH_take (i := 7) (v := .int .i64 x) rfl (by kernel_rfl) (by kernel_rfl) (by kernel_rfl) (fun _ _ _ h => h) (Or.inl ⟨by rfl, fun w hSw => by have d : w.cell? ⟨bw, k, none⟩ = some (.int .i64 x) := low_cell hSw.out r1; go_simp⟩) hS ?_
        simp only [Act.put, List.getElem_toArray, List.getElem_cons_succ, List.getElem_cons_zero, List.setIfInBounds_toArray, List.set_cons_zero, List.set_cons_succ]
        refine wpAnyH_take (i := 8) (v := .pointer (some ⟨g, 0, none⟩)) rfl (by kernel_rfl) (by kernel_rfl) (by kernel_rfl) (fun _ _ _ h => h) (Or.inl ⟨by rfl, fun w hSw => by go_simp⟩) hS ?_
        simp only [Act.put, List.getElem_toArray, List.getElem_cons_succ, List.getElem_cons_zero, List.setIfInBounds_toArray, List.set_cons_zero, List.set_cons_succ]
        refine wpAnyH_take (i := 9) (v := .pointer (some ⟨g, 0, none⟩)) rfl (by kernel_rfl) (by kernel_rfl) (by kernel_rfl) (fun _ _ _ h => h) (Or.inl ⟨by rfl, fun w hSw => by go_simp⟩) hS ?_
        simp only [Act.put, List.getElem_toArray, List.getElem_cons_succ, List.getElem_cons_zero, List.setIfInBounds_toArray, List.set_cons_zero, List.set_cons_succ]
        refine wpAnyH_take (i := 10) (v := .pointer (some ⟨g, 1, none⟩)) rfl (by kernel_rfl) (by kernel_rfl) (by kernel_rfl) (fun _ _ _ h => h) (Or.inl ⟨by rfl, fun w hSw => by go_simp⟩) hS ?_
        simp only [Act.put, List.getElem_toArray, List.getElem_cons_succ, List.getElem_cons_zero, List.setIfInBounds_toArray, List.set_cons_zero, List.set_cons_succ]
        refine wpAnyH_take (i := 11) (v := .slice (some ⟨bs, 0, none⟩) s.S.length cs) rfl (by kernel_rfl) (by kernel_rfl) (by kernel_rfl) (fun _ _ _ h => h) (Or.inl ⟨by rfl, fun w hSw => by have d : w.cell? ⟨g, 1, none⟩ = some (.slice (some ⟨bs, 0, none⟩) s.S.length cs) := low_cell hSw.out c1; go_simp⟩) hS ?_
        simp only [Act.put, List.getElem_toArray, List.getElem_cons_succ, List.getElem_cons_zero, List.setIfInBounds_toArray, List.set_cons_zero, List.set_cons_succ]
        refine wpAnyH_take (i := 12) (v := .int .i64 (k : Int)) rfl (by kernel_rfl) (by kernel_rfl) (by kernel_rfl) (fun _ _ _ h => h) (Or.inl ⟨by rfl, fun w hSw => by go_simp⟩) hS ?_
        simp only [Act.put, List.getElem_toArray, List.getElem_cons_succ, List.getElem_cons_zero, List.setIfInBounds_toArray, List.set_cons_zero, List.set_cons_succ]
        refine wpAnyH_take (i := 13) (v := .pointer (some ⟨bs, k, none⟩)) rfl (by kernel_rfl) (by kernel_rfl) (by kernel_rfl) (fun _ _ _ h => h) (Or.inl ⟨by rfl, fun w hSw => by go_simp⟩) hS ?_
        simp only [Act.put, List.getElem_toArray, List.getElem_cons_succ, List.getElem_cons_zero, List.setIfInBounds_toArray, List.set_cons_zero, List.set_cons_succ]
        refine wpAnyH_take (i := 14) (v := .int .i64 y) rfl (by kernel_rfl) (by kernel_rfl) (by kernel_rfl) (fun _ _ _ h => h) (Or.inl ⟨by rfl, fun w hSw => by have d : w.cell? ⟨bs, k, none⟩ = some (.int .i64 y) := low_cell hSw.out r2; go_simp⟩) hS ?_
        simp only [Act.put, List.getElem_toArray, List.getElem_cons_succ, List.getElem_cons_zero, List.setIfInBounds_toArray, List.set_cons_zero, List.set_cons_succ]
        refine wpAnyH_take (i := 15) (v := .int .i64 (mnN y)) rfl (by kernel_rfl) (by kernel_rfl) (by kernel_rfl) (fun _ _ _ h => h) (Or.inl ⟨by rfl, fun w hSw => by go_simp <;> rfl⟩) hS ?_
        simp only [Act.put, List.getElem_toArray, List.getElem_cons_succ, List.getElem_cons_zero, List.setIfInBounds_toArray, List.set_cons_zero, List.set_cons_succ]
        refine wpAnyH_take (i := 16) (v := .int .i64 (cut16 y)) rfl (by kernel_rfl) (by kernel_rfl) (by kernel_rfl) (fun _ _ _ h => h) (Or.inl ⟨by rfl, fun w hSw => by go_simp <;> exact cut_of y⟩) hS ?_
        simp only [Act.put, List.getElem_toArray, List.getElem_cons_succ, List.getElem_cons_zero, List.setIfInBounds_toArray, List.set_cons_zero, List.set_cons_succ]
        refine wpAnyH_take (i := 17) (v := .int .i64 (x * cut16 y)) rfl (by kernel_rfl) (by kernel_rfl) (by kernel_rfl) (fun _ _ _ h => h) (Or.inl ⟨by rfl, fun w hSw => by go_simp <;> exact wrap_of hd2.1 hd2.2⟩) hS ?_
        simp only [Act.put, List.getElem_toArray, List.getElem_cons_succ, List.getElem_cons_zero, List.setIfInBounds_toArray, List.set_cons_zero, List.set_cons_succ]
        refine wpAnyH_take (i := 18) (v := .int .i64 d2) rfl (by kernel_rfl) (by kernel_rfl) (by kernel_rfl) (fun _ _ _ h => h) (Or.inl ⟨by rfl, fun w hSw => by go_simp <;> exact sum_of HN.out hd hd2 hk32⟩) hS ?_
        simp only [Act.put, List.getElem_toArray, List.getElem_cons_succ, List.getElem_cons_zero, List.setIfInBounds_toArray, List.set_cons_zero, List.set_cons_succ]
        refine wpAnyH_take (i := 19) (v := .int .i64 d2) rfl (by kernel_rfl) (by kernel_rfl) (by kernel_rfl) (fun _ _ _ h => h) (Or.inl ⟨by rfl, fun w hSw => by go_simp⟩) hS ?_
        simp only [Act.put, List.getElem_toArray, List.getElem_cons_succ, List.getElem_cons_zero, List.setIfInBounds_toArray, List.set_cons_zero, List.set_cons_succ]
        refine wpAnyH_done (by kernel_rfl) ?_ _
        go_wp2_with fail
        go_roundw
        case rel => exact ⟨k + 1, n + 1, by omega, by go_num, by rw [HD2.out], by rw [HW.out]; rfl⟩
        case measure => simp [intOf]; omega
      · have hke : k = s.W.length := by omega
        have hd := dotI_in s.W s.S HK.out.wi k hk
        rw [← hke] at HT
        generalize dotI s.W s.S k = d at *
        go_wp2_with fail
        go_ret
        exact ⟨by rw [HT.out]; rfl, n, HW.out⟩

end Go.Proofs.Ytecdcmjeiogenaa
