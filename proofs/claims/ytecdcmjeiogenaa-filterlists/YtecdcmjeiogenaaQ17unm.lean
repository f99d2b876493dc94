/- Own text: Unmid of the program's. -/
import Derived.Test.YtecdcmjeiogenaaQ17mid
namespace Go.Proofs.Ytecdcmjeiogenaa
open Go.RowKit
set_option linter.unusedSimpArgs false
set_option linter.unusedVariables false
attribute [local go_sem] Oper.semAt_some

set_option maxRecDepth 20000 in
set_option maxHeartbeats 3200000 in
theorem p_unmid (a b : List Int) (aa ba : Option Addr) (ac bc : Nat) (w0 : World) (ha : IntsAt w0 aa a) (hb : IntsAt w0 ba b) : Calls Try.prog 14 #[.slice aa a.length ac, .slice ba b.length bc] w0 (RetQ (zipN unaN a b (min a.length b.length)) (zipN unbN a b (min a.length b.length)) w0) := by
  have HA := hid ha
  have HB := hid hb
  have hla := ha.len
  have hlb := hb.len
  clear ha hb
  obtain ⟨n, hn⟩ : ∃ n, n = min a.length b.length := ⟨_, rfl⟩
  have hna : n ≤ a.length := by omega
  have hnb : n ≤ b.length := by omega
  have hn63 : n ≤ 17592186044415 := by omega
  have hmn : (if b.length < a.length then (b.length : Int) else (a.length : Int)) = (n : Int) := by split <;> omega
  have HMN := hid hmn
  rw [← hn]
  clear hmn hn
  go_enter Try.func14, Try.ntmps14
  go_upto_region 2 with fail
  rw [HMN.out]
  refine wp_region_held_drew (S := fun _ => Hid True) (by kernel_rfl) (hid trivial) (fun hS => ?_)
  refine wpAnyH_take (i := 0) (v := .int .i64 (n : Int)) rfl (by kernel_rfl) (by kernel_rfl) (by kernel_rfl) (fun _ _ _ h => h) (Or.inl ⟨by rfl, fun w hSw => by go_simp⟩) hS ?_
  simp only [Act.put, List.getElem_toArray, List.getElem_cons_succ, List.getElem_cons_zero, List.setIfInBounds_toArray, List.set_cons_zero, List.set_cons_succ]
  refine wpAnyH_take (i := 2) (v := .int .i64 (n : Int)) rfl (by kernel_rfl) (by kernel_rfl) (by kernel_rfl) (fun _ _ _ h => h) (Or.inl ⟨by rfl, fun w hSw => by go_simp⟩) hS ?_
  simp only [Act.put, List.getElem_toArray, List.getElem_cons_succ, List.getElem_cons_zero, List.setIfInBounds_toArray, List.set_cons_zero, List.set_cons_succ]
  refine wpAnyH_ready (rs := [1, 3]) (by kernel_rfl) (by simp) ?_
  refine AllReadyH.cons rfl (fun K hK => ?_) (AllReadyH.cons rfl (fun K hK => ?_) AllReadyH.nil)
  · have hmk := make_row n hn63 w0.drew
    go_simp
    clear hmk
    generalize hw : (World.alloc w0 _).drew = w5
    have H5 : Hid (IB w5 w0.heap.size (List.replicate n 0) ∧ Below w0.heap.size w0 w5 ∧ w0.heap.size < w5.heap.size) := by
      rw [← hw]
      exact ⟨heap_alloc_new _ _, (below_new _ _).trans (below_on (Below.refl _ _) (by simp) (below_drew _)), by simp⟩
    refine hK.out _ _ hS (fun _ => ?_)
    clear hK K hw
    try simp only [Act.put, List.getElem_toArray, List.getElem_cons_succ, List.getElem_cons_zero, List.setIfInBounds_toArray, List.set_cons_zero, List.set_cons_succ]
    refine wpAnyH_take (i := 4) (v := .slice (some ⟨w0.heap.size, 0, none⟩) n n) rfl (by kernel_rfl) (by kernel_rfl) (by kernel_rfl) (fun _ _ _ h => h) (Or.inl ⟨by rfl, fun w hSw => by go_simp⟩) hS ?_
    simp only [Act.put, List.getElem_toArray, List.getElem_cons_succ, List.getElem_cons_zero, List.setIfInBounds_toArray, List.set_cons_zero, List.set_cons_succ]
    refine wpAnyH_ready (rs := [3]) (by kernel_rfl) (by simp) ?_
    refine AllReadyH.cons rfl (fun K hK => ?_) AllReadyH.nil
    have hmk := make_row n hn63 w5
    go_simp
    clear hmk
    generalize hw : World.alloc w5 _ = w6
    have H6 : Hid (IB w6 w0.heap.size (List.replicate n 0) ∧ IB w6 w5.heap.size (List.replicate n 0) ∧ Below w0.heap.size w0 w6 ∧ w0.heap.size < w5.heap.size) := by
      rw [← hw]
      exact ⟨H5.out.1.keep ((below_new w5 _).block _ H5.out.1.lt), heap_alloc_new _ _, below_on H5.out.2.1 H5.out.2.1.size (below_new _ _), H5.out.2.2⟩
    refine hK.out _ _ hS (fun _ => ?_)
    clear hK K hw
    try simp only [Act.put, List.getElem_toArray, List.getElem_cons_succ, List.getElem_cons_zero, List.setIfInBounds_toArray, List.set_cons_zero, List.set_cons_succ]
    refine wpAnyH_take (i := 5) (v := .slice (some ⟨w5.heap.size, 0, none⟩) n n) rfl (by kernel_rfl) (by kernel_rfl) (by kernel_rfl) (fun _ _ _ h => h) (Or.inl ⟨by rfl, fun w hSw => by go_simp⟩) hS ?_
    simp only [Act.put, List.getElem_toArray, List.getElem_cons_succ, List.getElem_cons_zero, List.setIfInBounds_toArray, List.set_cons_zero, List.set_cons_succ]
    refine wpAnyH_done (by kernel_rfl) ?_ _
    have HR : Hid (IB w6 (w0.heap.size) (List.replicate n 0) ∧ IB w6 (w5.heap.size) (List.replicate n 0) ∧ (w0.heap.size) ≠ (w5.heap.size) ∧ w0.heap.size ≤ (w0.heap.size) ∧ w0.heap.size ≤ (w5.heap.size) ∧ Below w0.heap.size w0 w6) := by
      have hlt := H6.out.2.2.2
      exact ⟨H6.out.1, H6.out.2.1, by omega, by omega, by omega, H6.out.2.2.1⟩
    clear H5 H6
    go_wp2_with fail
    go_loopw [9, 20] (fun _ sk wr => ∃ k : Nat, k ≤ n ∧ sk = .int .i64 (k : Int) ∧ IB wr (w0.heap.size) (zipN unaN a b k ++ List.replicate (n - k) 0) ∧ IB wr (w5.heap.size) (zipN unbN a b k ++ List.replicate (n - k) 0) ∧ Below w0.heap.size w0 wr) (fun _ sk _ => n - (intOf sk).toNat)
    case atStart => exact ⟨0, Nat.zero_le _, rfl, HR.out.1, HR.out.2.1, HR.out.2.2.2.2.2⟩
    case round =>
      obtain ⟨k, hk, rfl, h1, h2, h3⟩ := hrel
      have H1 := hid h1
      have H2 := hid h2
      have H3 := hid h3
      clear h1 h2 h3
      by_cases hlt : k < n
      · obtain ⟨b0, o0, rfl, q0⟩ := HA.out.at k (by omega)
        obtain ⟨b1, o1, rfl, q1⟩ := HB.out.at k (by omega)
        have r0 := q0 wr H3.out
        have r1 := q1 wr H3.out
        have HQ0 := hid q0
        have HQ1 := hid q1
        clear q0 q1
        have hka : k < a.length := by omega
        have hkb : k < b.length := by omega
        have HZX : Hid (zipN unaN a b (k + 1) = zipN unaN a b k ++ [unaN (a.getD k 0) (b.getD k 0)]) := rfl
        have HZY : Hid (zipN unbN a b (k + 1) = zipN unbN a b k ++ [unbN (a.getD k 0) (b.getD k 0)]) := rfl
        have hlx : Hid ((zipN unaN a b k).length = k) := zipN_len _ _ _ _
        have hly : Hid ((zipN unbN a b k).length = k) := zipN_len _ _ _ _
        generalize a.getD k 0 = x at *
        generalize b.getD k 0 = y at *
        have s2 := H2.out.c k (by rw [List.length_append, hly.out, List.length_replicate]; omega)
        have f2 := H2.out.fz k
        have H9a : Hid (IB (wr.setCell ⟨(w5.heap.size), k, none⟩ (.int .i64 (unbN x y))) (w5.heap.size) (zipN unbN a b (k + 1) ++ List.replicate (n - (k + 1)) 0) ∧ IB (wr.setCell ⟨(w5.heap.size), k, none⟩ (.int .i64 (unbN x y))) (w0.heap.size) (zipN unaN a b k ++ List.replicate (n - k) 0) ∧ Below w0.heap.size w0 (wr.setCell ⟨(w5.heap.size), k, none⟩ (.int .i64 (unbN x y))) ∧ (wr.setCell ⟨(w5.heap.size), k, none⟩ (.int .i64 (unbN x y))).cell? ⟨(w5.heap.size), k, none⟩ = some (.int .i64 (unbN x y))) := by
          have hset := H2.out.set k (unbN x y)
          have he := set_at (zipN unbN a b k) (n - k) (unbN x y) (by omega)
          rw [hly.out] at he
          rw [he, ← HZY.out, Nat.sub_sub] at hset
          refine ⟨hset, H1.out.keep (Below.heap_setCell _ _ _ _ HR.out.2.2.1), H3.out.setCell HR.out.2.2.2.2.1 _, ?_⟩
          have := hset.c k (by rw [List.length_append, zipN_len]; omega)
          rw [this, HZY.out, app_at _ _ _ hly.out]
        go_upto_region 6 with fail
        refine wp_region_Z (z := 13) (S := fun wx => Hid (wx = wr.drew)) (by kernel_rfl) (hid rfl) (fun hS => ?_)
        refine wpAnyZ_take (i := 0) (v := .slice (some ⟨(w5.heap.size), 0, none⟩) n n) rfl (by kernel_rfl) (by kernel_rfl) (by kernel_rfl) (by kernel_rfl) (fun _ _ _ h => h) (Or.inl ⟨by rfl, fun w hSw => by go_simp⟩) hS ?_
        simp only [Act.put, List.getElem_toArray, List.getElem_cons_succ, List.getElem_cons_zero, List.setIfInBounds_toArray, List.set_cons_zero, List.set_cons_succ]
        refine wpAnyZ_take (i := 1) (v := .int .i64 (k : Int)) rfl (by kernel_rfl) (by kernel_rfl) (by kernel_rfl) (by kernel_rfl) (fun _ _ _ h => h) (Or.inl ⟨by rfl, fun w hSw => by go_simp⟩) hS ?_
        simp only [Act.put, List.getElem_toArray, List.getElem_cons_succ, List.getElem_cons_zero, List.setIfInBounds_toArray, List.set_cons_zero, List.set_cons_succ]
        refine wpAnyZ_take (i := 2) (v := .slice (some ⟨b0, o0, none⟩) a.length ac) rfl (by kernel_rfl) (by kernel_rfl) (by kernel_rfl) (by kernel_rfl) (fun _ _ _ h => h) (Or.inl ⟨by rfl, fun w hSw => by go_simp⟩) hS ?_
        simp only [Act.put, List.getElem_toArray, List.getElem_cons_succ, List.getElem_cons_zero, List.setIfInBounds_toArray, List.set_cons_zero, List.set_cons_succ]
        refine wpAnyZ_take (i := 3) (v := .int .i64 (k : Int)) rfl (by kernel_rfl) (by kernel_rfl) (by kernel_rfl) (by kernel_rfl) (fun _ _ _ h => h) (Or.inl ⟨by rfl, fun w hSw => by go_simp⟩) hS ?_
        simp only [Act.put, List.getElem_toArray, List.getElem_cons_succ, List.getElem_cons_zero, List.setIfInBounds_toArray, List.set_cons_zero, List.set_cons_succ]
        refine wpAnyZ_take (i := 4) (v := .pointer (some ⟨b0, o0 + k, none⟩)) rfl (by kernel_rfl) (by kernel_rfl) (by kernel_rfl) (by kernel_rfl) (fun _ _ _ h => h) (Or.inl ⟨by rfl, fun w hSw => by go_simp⟩) hS ?_
        simp only [Act.put, List.getElem_toArray, List.getElem_cons_succ, List.getElem_cons_zero, List.setIfInBounds_toArray, List.set_cons_zero, List.set_cons_succ]
        refine wpAnyZ_take (i := 5) (v := .int .i64 x) rfl (by kernel_rfl) (by kernel_rfl) (by kernel_rfl) (by kernel_rfl) (fun _ _ _ h => h) (Or.inl ⟨by rfl, fun w hSw => by have d : w.cell? ⟨b0, o0 + k, none⟩ = some (.int .i64 x) := (by rw [hSw.out]; exact r0); go_simp⟩) hS ?_
        simp only [Act.put, List.getElem_toArray, List.getElem_cons_succ, List.getElem_cons_zero, List.setIfInBounds_toArray, List.set_cons_zero, List.set_cons_succ]
        refine wpAnyZ_take (i := 6) (v := .slice (some ⟨b1, o1, none⟩) b.length bc) rfl (by kernel_rfl) (by kernel_rfl) (by kernel_rfl) (by kernel_rfl) (fun _ _ _ h => h) (Or.inl ⟨by rfl, fun w hSw => by go_simp⟩) hS ?_
        simp only [Act.put, List.getElem_toArray, List.getElem_cons_succ, List.getElem_cons_zero, List.setIfInBounds_toArray, List.set_cons_zero, List.set_cons_succ]
        refine wpAnyZ_take (i := 7) (v := .int .i64 (k : Int)) rfl (by kernel_rfl) (by kernel_rfl) (by kernel_rfl) (by kernel_rfl) (fun _ _ _ h => h) (Or.inl ⟨by rfl, fun w hSw => by go_simp⟩) hS ?_
        simp only [Act.put, List.getElem_toArray, List.getElem_cons_succ, List.getElem_cons_zero, List.setIfInBounds_toArray, List.set_cons_zero, List.set_cons_succ]
        refine wpAnyZ_take (i := 8) (v := .pointer (some ⟨b1, o1 + k, none⟩)) rfl (by kernel_rfl) (by kernel_rfl) (by kernel_rfl) (by kernel_rfl) (fun _ _ _ h => h) (Or.inl ⟨by rfl, fun w hSw => by go_simp⟩) hS ?_
        simp only [Act.put, List.getElem_toArray, List.getElem_cons_succ, List.getElem_cons_zero, List.setIfInBounds_toArray, List.set_cons_zero, List.set_cons_succ]
        refine wpAnyZ_take (i := 9) (v := .int .i64 y) rfl (by kernel_rfl) (by kernel_rfl) (by kernel_rfl) (by kernel_rfl) (fun _ _ _ h => h) (Or.inl ⟨by rfl, fun w hSw => by have d : w.cell? ⟨b1, o1 + k, none⟩ = some (.int .i64 y) := (by rw [hSw.out]; exact r1); go_simp⟩) hS ?_
        simp only [Act.put, List.getElem_toArray, List.getElem_cons_succ, List.getElem_cons_zero, List.setIfInBounds_toArray, List.set_cons_zero, List.set_cons_succ]
        refine wpAnyZ_ready (rs := [10]) (by kernel_rfl) (by simp) ?_
        refine AllReadyZ.cons rfl (fun K hK => ?_) AllReadyZ.nil
        go_simp
        refine (p_half y _).mono ?_
        rintro e w7 ⟨rfl, rfl⟩
        refine hK.out _ _ (fun _ => hid rfl) ?_
        clear hK K
        try simp only [Act.put, List.getElem_toArray, List.getElem_cons_succ, List.getElem_cons_zero, List.setIfInBounds_toArray, List.set_cons_zero, List.set_cons_succ]
        refine wpAnyZ_take (i := 11) (v := .int .i64 (unbN x y)) rfl (by kernel_rfl) (by kernel_rfl) (by kernel_rfl) (by kernel_rfl) (fun _ _ _ h => h) (Or.inl ⟨by rfl, fun w hSw => by go_simp <;> exact un_b x y⟩) hS ?_
        simp only [Act.put, List.getElem_toArray, List.getElem_cons_succ, List.getElem_cons_zero, List.setIfInBounds_toArray, List.set_cons_zero, List.set_cons_succ]
        refine wpAnyZ_take (i := 12) (v := .pointer (some ⟨(w5.heap.size), k, none⟩)) rfl (by kernel_rfl) (by kernel_rfl) (by kernel_rfl) (by kernel_rfl) (fun _ _ _ h => h) (Or.inl ⟨by rfl, fun w hSw => by go_simp⟩) hS ?_
        simp only [Act.put, List.getElem_toArray, List.getElem_cons_succ, List.getElem_cons_zero, List.setIfInBounds_toArray, List.set_cons_zero, List.set_cons_succ]
        refine wpAnyZ_ready (rs := [13]) (by kernel_rfl) (by simp) ?_
        refine AllReadyZ.cons rfl (fun K hK => ?_) AllReadyZ.nil
        go_simp
        refine hK.out _ _ (fun h => absurd rfl h) ?_
        clear hK K
        refine wpAnyZ_done (by kernel_rfl) ?_ _
        generalize hw9 : (wr.setCell ⟨(w5.heap.size), k, none⟩ (.int .i64 (unbN x y))).drew = w9
        have H9 : Hid (IB w9 (w5.heap.size) (zipN unbN a b (k + 1) ++ List.replicate (n - (k + 1)) 0) ∧ IB w9 (w0.heap.size) (zipN unaN a b k ++ List.replicate (n - k) 0) ∧ Below w0.heap.size w0 w9 ∧ w9.cell? ⟨(w5.heap.size), k, none⟩ = some (.int .i64 (unbN x y))) := by
          rw [← hw9]
          exact ⟨H9a.out.1, H9a.out.2.1, below_on H9a.out.2.2.1 H9a.out.2.2.1.size (below_drew _), H9a.out.2.2.2⟩
        clear hw9 H9a r0 r1 s2 f2 H1 H2 H3 hS
        have r1 := HQ1.out w9 H9.out.2.2.1
        have q8 := H9.out.2.2.2
        have s1 := H9.out.2.1.c k (by rw [List.length_append, hlx.out, List.length_replicate]; omega)
        have f1 := H9.out.2.1.fz k
        have H7a : Hid (IB (w9.setCell ⟨(w0.heap.size), k, none⟩ (.int .i64 (unaN x y))) (w0.heap.size) (zipN unaN a b (k + 1) ++ List.replicate (n - (k + 1)) 0) ∧ IB (w9.setCell ⟨(w0.heap.size), k, none⟩ (.int .i64 (unaN x y))) (w5.heap.size) (zipN unbN a b (k + 1) ++ List.replicate (n - (k + 1)) 0) ∧ Below w0.heap.size w0 (w9.setCell ⟨(w0.heap.size), k, none⟩ (.int .i64 (unaN x y)))) := by
          have hset := H9.out.2.1.set k (unaN x y)
          have he := set_at (zipN unaN a b k) (n - k) (unaN x y) (by omega)
          rw [hlx.out] at he
          rw [he, ← HZX.out, Nat.sub_sub] at hset
          exact ⟨hset, H9.out.1.keep (Below.heap_setCell _ _ _ _ (fun e => HR.out.2.2.1 e.symm)), H9.out.2.2.1.setCell HR.out.2.2.2.1 _⟩
        go_upto_region 7 with fail
        refine wp_region_Z (z := 12) (S := fun wx => Hid (wx = w9.drew)) (by kernel_rfl) (hid rfl) (fun hS => ?_)
        refine wpAnyZ_take (i := 0) (v := .slice (some ⟨(w0.heap.size), 0, none⟩) n n) rfl (by kernel_rfl) (by kernel_rfl) (by kernel_rfl) (by kernel_rfl) (fun _ _ _ h => h) (Or.inl ⟨by rfl, fun w hSw => by go_simp⟩) hS ?_
        simp only [Act.put, List.getElem_toArray, List.getElem_cons_succ, List.getElem_cons_zero, List.setIfInBounds_toArray, List.set_cons_zero, List.set_cons_succ]
        refine wpAnyZ_take (i := 1) (v := .int .i64 (k : Int)) rfl (by kernel_rfl) (by kernel_rfl) (by kernel_rfl) (by kernel_rfl) (fun _ _ _ h => h) (Or.inl ⟨by rfl, fun w hSw => by go_simp⟩) hS ?_
        simp only [Act.put, List.getElem_toArray, List.getElem_cons_succ, List.getElem_cons_zero, List.setIfInBounds_toArray, List.set_cons_zero, List.set_cons_succ]
        refine wpAnyZ_take (i := 2) (v := .slice (some ⟨(w5.heap.size), 0, none⟩) n n) rfl (by kernel_rfl) (by kernel_rfl) (by kernel_rfl) (by kernel_rfl) (fun _ _ _ h => h) (Or.inl ⟨by rfl, fun w hSw => by go_simp⟩) hS ?_
        simp only [Act.put, List.getElem_toArray, List.getElem_cons_succ, List.getElem_cons_zero, List.setIfInBounds_toArray, List.set_cons_zero, List.set_cons_succ]
        refine wpAnyZ_take (i := 3) (v := .int .i64 (k : Int)) rfl (by kernel_rfl) (by kernel_rfl) (by kernel_rfl) (by kernel_rfl) (fun _ _ _ h => h) (Or.inl ⟨by rfl, fun w hSw => by go_simp⟩) hS ?_
        simp only [Act.put, List.getElem_toArray, List.getElem_cons_succ, List.getElem_cons_zero, List.setIfInBounds_toArray, List.set_cons_zero, List.set_cons_succ]
        refine wpAnyZ_take (i := 4) (v := .pointer (some ⟨(w5.heap.size), k, none⟩)) rfl (by kernel_rfl) (by kernel_rfl) (by kernel_rfl) (by kernel_rfl) (fun _ _ _ h => h) (Or.inl ⟨by rfl, fun w hSw => by go_simp⟩) hS ?_
        simp only [Act.put, List.getElem_toArray, List.getElem_cons_succ, List.getElem_cons_zero, List.setIfInBounds_toArray, List.set_cons_zero, List.set_cons_succ]
        refine wpAnyZ_take (i := 5) (v := .int .i64 (unbN x y)) rfl (by kernel_rfl) (by kernel_rfl) (by kernel_rfl) (by kernel_rfl) (fun _ _ _ h => h) (Or.inl ⟨by rfl, fun w hSw => by have d : w.cell? ⟨(w5.heap.size), k, none⟩ = some (.int .i64 (unbN x y)) := (by rw [hSw.out]; exact q8); go_simp⟩) hS ?_
        simp only [Act.put, List.getElem_toArray, List.getElem_cons_succ, List.getElem_cons_zero, List.setIfInBounds_toArray, List.set_cons_zero, List.set_cons_succ]
        refine wpAnyZ_take (i := 6) (v := .slice (some ⟨b1, o1, none⟩) b.length bc) rfl (by kernel_rfl) (by kernel_rfl) (by kernel_rfl) (by kernel_rfl) (fun _ _ _ h => h) (Or.inl ⟨by rfl, fun w hSw => by go_simp⟩) hS ?_
        simp only [Act.put, List.getElem_toArray, List.getElem_cons_succ, List.getElem_cons_zero, List.setIfInBounds_toArray, List.set_cons_zero, List.set_cons_succ]
        refine wpAnyZ_take (i := 7) (v := .int .i64 (k : Int)) rfl (by kernel_rfl) (by kernel_rfl) (by kernel_rfl) (by kernel_rfl) (fun _ _ _ h => h) (Or.inl ⟨by rfl, fun w hSw => by go_simp⟩) hS ?_
        simp only [Act.put, List.getElem_toArray, List.getElem_cons_succ, List.getElem_cons_zero, List.setIfInBounds_toArray, List.set_cons_zero, List.set_cons_succ]
        refine wpAnyZ_take (i := 8) (v := .pointer (some ⟨b1, o1 + k, none⟩)) rfl (by kernel_rfl) (by kernel_rfl) (by kernel_rfl) (by kernel_rfl) (fun _ _ _ h => h) (Or.inl ⟨by rfl, fun w hSw => by go_simp⟩) hS ?_
        simp only [Act.put, List.getElem_toArray, List.getElem_cons_succ, List.getElem_cons_zero, List.setIfInBounds_toArray, List.set_cons_zero, List.set_cons_succ]
        refine wpAnyZ_take (i := 9) (v := .int .i64 y) rfl (by kernel_rfl) (by kernel_rfl) (by kernel_rfl) (by kernel_rfl) (fun _ _ _ h => h) (Or.inl ⟨by rfl, fun w hSw => by have d : w.cell? ⟨b1, o1 + k, none⟩ = some (.int .i64 y) := (by rw [hSw.out]; exact r1); go_simp⟩) hS ?_
        simp only [Act.put, List.getElem_toArray, List.getElem_cons_succ, List.getElem_cons_zero, List.setIfInBounds_toArray, List.set_cons_zero, List.set_cons_succ]
        refine wpAnyZ_take (i := 10) (v := .int .i64 (unaN x y)) rfl (by kernel_rfl) (by kernel_rfl) (by kernel_rfl) (by kernel_rfl) (fun _ _ _ h => h) (Or.inl ⟨by rfl, fun w hSw => by go_simp <;> exact un_a x y⟩) hS ?_
        simp only [Act.put, List.getElem_toArray, List.getElem_cons_succ, List.getElem_cons_zero, List.setIfInBounds_toArray, List.set_cons_zero, List.set_cons_succ]
        refine wpAnyZ_take (i := 11) (v := .pointer (some ⟨(w0.heap.size), k, none⟩)) rfl (by kernel_rfl) (by kernel_rfl) (by kernel_rfl) (by kernel_rfl) (fun _ _ _ h => h) (Or.inl ⟨by rfl, fun w hSw => by go_simp⟩) hS ?_
        simp only [Act.put, List.getElem_toArray, List.getElem_cons_succ, List.getElem_cons_zero, List.setIfInBounds_toArray, List.set_cons_zero, List.set_cons_succ]
        refine wpAnyZ_ready (rs := [12]) (by kernel_rfl) (by simp) ?_
        refine AllReadyZ.cons rfl (fun K hK => ?_) AllReadyZ.nil
        go_simp
        refine hK.out _ _ (fun h => absurd rfl h) ?_
        clear hK K
        refine wpAnyZ_done (by kernel_rfl) ?_ _
        go_wp2_with fail
        go_roundw
        case rel => exact ⟨k + 1, by omega, by go_num, H7a.out.1, H7a.out.2.1, below_on H7a.out.2.2 H7a.out.2.2.size (below_drew _)⟩
        case measure => simp [intOf]; omega
      · have HE : Hid (IntsAt wr (some ⟨(w0.heap.size), 0, none⟩) (zipN unaN a b n) ∧ IntsAt wr (some ⟨(w5.heap.size), 0, none⟩) (zipN unbN a b n)) := by
          have e : k = n := by omega
          have h1 := H1.out
          have h2 := H2.out
          rw [e, Nat.sub_self, List.replicate_zero, List.append_nil] at h1 h2
          exact ⟨h1.ints (by rw [zipN_len]; exact hn63) (zipN_in _ unaN_in _ _ _), h2.ints (by rw [zipN_len]; exact hn63) (zipN_in _ unbN_in _ _ _)⟩
        clear H1 H2
        go_wp2_with fail
        go_ret2
        exact ⟨some ⟨(w0.heap.size), 0, none⟩, n, some ⟨(w5.heap.size), 0, none⟩, n, by rw [zipN_len, zipN_len]; rfl, HE.out.1, HE.out.2, by rw [zipN_len]; exact Nat.le_refl _, by rw [zipN_len]; exact Nat.le_refl _, H3.out⟩
  · have hmk := make_row n hn63 w0.drew
    go_simp
    clear hmk
    generalize hw : (World.alloc w0 _).drew = w5
    have H5 : Hid (IB w5 w0.heap.size (List.replicate n 0) ∧ Below w0.heap.size w0 w5 ∧ w0.heap.size < w5.heap.size) := by
      rw [← hw]
      exact ⟨heap_alloc_new _ _, (below_new _ _).trans (below_on (Below.refl _ _) (by simp) (below_drew _)), by simp⟩
    refine hK.out _ _ hS (fun _ => ?_)
    clear hK K hw
    try simp only [Act.put, List.getElem_toArray, List.getElem_cons_succ, List.getElem_cons_zero, List.setIfInBounds_toArray, List.set_cons_zero, List.set_cons_succ]
    refine wpAnyH_ready (rs := [1]) (by kernel_rfl) (by simp) ?_
    refine AllReadyH.cons rfl (fun K hK => ?_) AllReadyH.nil
    have hmk := make_row n hn63 w5
    go_simp
    clear hmk
    generalize hw : World.alloc w5 _ = w6
    have H6 : Hid (IB w6 w0.heap.size (List.replicate n 0) ∧ IB w6 w5.heap.size (List.replicate n 0) ∧ Below w0.heap.size w0 w6 ∧ w0.heap.size < w5.heap.size) := by
      rw [← hw]
      exact ⟨H5.out.1.keep ((below_new w5 _).block _ H5.out.1.lt), heap_alloc_new _ _, below_on H5.out.2.1 H5.out.2.1.size (below_new _ _), H5.out.2.2⟩
    refine hK.out _ _ hS (fun _ => ?_)
    clear hK K hw
    try simp only [Act.put, List.getElem_toArray, List.getElem_cons_succ, List.getElem_cons_zero, List.setIfInBounds_toArray, List.set_cons_zero, List.set_cons_succ]
    refine wpAnyH_take (i := 4) (v := .slice (some ⟨w5.heap.size, 0, none⟩) n n) rfl (by kernel_rfl) (by kernel_rfl) (by kernel_rfl) (fun _ _ _ h => h) (Or.inl ⟨by rfl, fun w hSw => by go_simp⟩) hS ?_
    simp only [Act.put, List.getElem_toArray, List.getElem_cons_succ, List.getElem_cons_zero, List.setIfInBounds_toArray, List.set_cons_zero, List.set_cons_succ]
    refine wpAnyH_take (i := 5) (v := .slice (some ⟨w0.heap.size, 0, none⟩) n n) rfl (by kernel_rfl) (by kernel_rfl) (by kernel_rfl) (fun _ _ _ h => h) (Or.inl ⟨by rfl, fun w hSw => by go_simp⟩) hS ?_
    simp only [Act.put, List.getElem_toArray, List.getElem_cons_succ, List.getElem_cons_zero, List.setIfInBounds_toArray, List.set_cons_zero, List.set_cons_succ]
    refine wpAnyH_done (by kernel_rfl) ?_ _
    have HR : Hid (IB w6 (w5.heap.size) (List.replicate n 0) ∧ IB w6 (w0.heap.size) (List.replicate n 0) ∧ (w5.heap.size) ≠ (w0.heap.size) ∧ w0.heap.size ≤ (w5.heap.size) ∧ w0.heap.size ≤ (w0.heap.size) ∧ Below w0.heap.size w0 w6) := by
      have hlt := H6.out.2.2.2
      exact ⟨H6.out.2.1, H6.out.1, by omega, by omega, by omega, H6.out.2.2.1⟩
    clear H5 H6
    go_wp2_with fail
    go_loopw [9, 20] (fun _ sk wr => ∃ k : Nat, k ≤ n ∧ sk = .int .i64 (k : Int) ∧ IB wr (w5.heap.size) (zipN unaN a b k ++ List.replicate (n - k) 0) ∧ IB wr (w0.heap.size) (zipN unbN a b k ++ List.replicate (n - k) 0) ∧ Below w0.heap.size w0 wr) (fun _ sk _ => n - (intOf sk).toNat)
    case atStart => exact ⟨0, Nat.zero_le _, rfl, HR.out.1, HR.out.2.1, HR.out.2.2.2.2.2⟩
    case round =>
      obtain ⟨k, hk, rfl, h1, h2, h3⟩ := hrel
      have H1 := hid h1
      have H2 := hid h2
      have H3 := hid h3
      clear h1 h2 h3
      by_cases hlt : k < n
      · obtain ⟨b0, o0, rfl, q0⟩ := HA.out.at k (by omega)
        obtain ⟨b1, o1, rfl, q1⟩ := HB.out.at k (by omega)
        have r0 := q0 wr H3.out
        have r1 := q1 wr H3.out
        have HQ0 := hid q0
        have HQ1 := hid q1
        clear q0 q1
        have hka : k < a.length := by omega
        have hkb : k < b.length := by omega
        have HZX : Hid (zipN unaN a b (k + 1) = zipN unaN a b k ++ [unaN (a.getD k 0) (b.getD k 0)]) := rfl
        have HZY : Hid (zipN unbN a b (k + 1) = zipN unbN a b k ++ [unbN (a.getD k 0) (b.getD k 0)]) := rfl
        have hlx : Hid ((zipN unaN a b k).length = k) := zipN_len _ _ _ _
        have hly : Hid ((zipN unbN a b k).length = k) := zipN_len _ _ _ _
        generalize a.getD k 0 = x at *
        generalize b.getD k 0 = y at *
        have s2 := H2.out.c k (by rw [List.length_append, hly.out, List.length_replicate]; omega)
        have f2 := H2.out.fz k
        have H9a : Hid (IB (wr.setCell ⟨(w0.heap.size), k, none⟩ (.int .i64 (unbN x y))) (w0.heap.size) (zipN unbN a b (k + 1) ++ List.replicate (n - (k + 1)) 0) ∧ IB (wr.setCell ⟨(w0.heap.size), k, none⟩ (.int .i64 (unbN x y))) (w5.heap.size) (zipN unaN a b k ++ List.replicate (n - k) 0) ∧ Below w0.heap.size w0 (wr.setCell ⟨(w0.heap.size), k, none⟩ (.int .i64 (unbN x y))) ∧ (wr.setCell ⟨(w0.heap.size), k, none⟩ (.int .i64 (unbN x y))).cell? ⟨(w0.heap.size), k, none⟩ = some (.int .i64 (unbN x y))) := by
          have hset := H2.out.set k (unbN x y)
          have he := set_at (zipN unbN a b k) (n - k) (unbN x y) (by omega)
          rw [hly.out] at he
          rw [he, ← HZY.out, Nat.sub_sub] at hset
          refine ⟨hset, H1.out.keep (Below.heap_setCell _ _ _ _ HR.out.2.2.1), H3.out.setCell HR.out.2.2.2.2.1 _, ?_⟩
          have := hset.c k (by rw [List.length_append, zipN_len]; omega)
          rw [this, HZY.out, app_at _ _ _ hly.out]
        go_upto_region 6 with fail
        refine wp_region_Z (z := 13) (S := fun wx => Hid (wx = wr.drew)) (by kernel_rfl) (hid rfl) (fun hS => ?_)
        refine wpAnyZ_take (i := 0) (v := .slice (some ⟨(w0.heap.size), 0, none⟩) n n) rfl (by kernel_rfl) (by kernel_rfl) (by kernel_rfl) (by kernel_rfl) (fun _ _ _ h => h) (Or.inl ⟨by rfl, fun w hSw => by go_simp⟩) hS ?_
        simp only [Act.put, List.getElem_toArray, List.getElem_cons_succ, List.getElem_cons_zero, List.setIfInBounds_toArray, List.set_cons_zero, List.set_cons_succ]
        refine wpAnyZ_take (i := 1) (v := .int .i64 (k : Int)) rfl (by kernel_rfl) (by kernel_rfl) (by kernel_rfl) (by kernel_rfl) (fun _ _ _ h => h) (Or.inl ⟨by rfl, fun w hSw => by go_simp⟩) hS ?_
        simp only [Act.put, List.getElem_toArray, List.getElem_cons_succ, List.getElem_cons_zero, List.setIfInBounds_toArray, List.set_cons_zero, List.set_cons_succ]
        refine wpAnyZ_take (i := 2) (v := .slice (some ⟨b0, o0, none⟩) a.length ac) rfl (by kernel_rfl) (by kernel_rfl) (by kernel_rfl) (by kernel_rfl) (fun _ _ _ h => h) (Or.inl ⟨by rfl, fun w hSw => by go_simp⟩) hS ?_
        simp only [Act.put, List.getElem_toArray, List.getElem_cons_succ, List.getElem_cons_zero, List.setIfInBounds_toArray, List.set_cons_zero, List.set_cons_succ]
        refine wpAnyZ_take (i := 3) (v := .int .i64 (k : Int)) rfl (by kernel_rfl) (by kernel_rfl) (by kernel_rfl) (by kernel_rfl) (fun _ _ _ h => h) (Or.inl ⟨by rfl, fun w hSw => by go_simp⟩) hS ?_
        simp only [Act.put, List.getElem_toArray, List.getElem_cons_succ, List.getElem_cons_zero, List.setIfInBounds_toArray, List.set_cons_zero, List.set_cons_succ]
        refine wpAnyZ_take (i := 4) (v := .pointer (some ⟨b0, o0 + k, none⟩)) rfl (by kernel_rfl) (by kernel_rfl) (by kernel_rfl) (by kernel_rfl) (fun _ _ _ h => h) (Or.inl ⟨by rfl, fun w hSw => by go_simp⟩) hS ?_
        simp only [Act.put, List.getElem_toArray, List.getElem_cons_succ, List.getElem_cons_zero, List.setIfInBounds_toArray, List.set_cons_zero, List.set_cons_succ]
        refine wpAnyZ_take (i := 5) (v := .int .i64 x) rfl (by kernel_rfl) (by kernel_rfl) (by kernel_rfl) (by kernel_rfl) (fun _ _ _ h => h) (Or.inl ⟨by rfl, fun w hSw => by have d : w.cell? ⟨b0, o0 + k, none⟩ = some (.int .i64 x) := (by rw [hSw.out]; exact r0); go_simp⟩) hS ?_
        simp only [Act.put, List.getElem_toArray, List.getElem_cons_succ, List.getElem_cons_zero, List.setIfInBounds_toArray, List.set_cons_zero, List.set_cons_succ]
        refine wpAnyZ_take (i := 6) (v := .slice (some ⟨b1, o1, none⟩) b.length bc) rfl (by kernel_rfl) (by kernel_rfl) (by kernel_rfl) (by kernel_rfl) (fun _ _ _ h => h) (Or.inl ⟨by rfl, fun w hSw => by go_simp⟩) hS ?_
        simp only [Act.put, List.getElem_toArray, List.getElem_cons_succ, List.getElem_cons_zero, List.setIfInBounds_toArray, List.set_cons_zero, List.set_cons_succ]
        refine wpAnyZ_take (i := 7) (v := .int .i64 (k : Int)) rfl (by kernel_rfl) (by kernel_rfl) (by kernel_rfl) (by kernel_rfl) (fun _ _ _ h => h) (Or.inl ⟨by rfl, fun w hSw => by go_simp⟩) hS ?_
        simp only [Act.put, List.getElem_toArray, List.getElem_cons_succ, List.getElem_cons_zero, List.setIfInBounds_toArray, List.set_cons_zero, List.set_cons_succ]
        refine wpAnyZ_take (i := 8) (v := .pointer (some ⟨b1, o1 + k, none⟩)) rfl (by kernel_rfl) (by kernel_rfl) (by kernel_rfl) (by kernel_rfl) (fun _ _ _ h => h) (Or.inl ⟨by rfl, fun w hSw => by go_simp⟩) hS ?_
        simp only [Act.put, List.getElem_toArray, List.getElem_cons_succ, List.getElem_cons_zero, List.setIfInBounds_toArray, List.set_cons_zero, List.set_cons_succ]
        refine wpAnyZ_take (i := 9) (v := .int .i64 y) rfl (by kernel_rfl) (by kernel_rfl) (by kernel_rfl) (by kernel_rfl) (fun _ _ _ h => h) (Or.inl ⟨by rfl, fun w hSw => by have d : w.cell? ⟨b1, o1 + k, none⟩ = some (.int .i64 y) := (by rw [hSw.out]; exact r1); go_simp⟩) hS ?_
        simp only [Act.put, List.getElem_toArray, List.getElem_cons_succ, List.getElem_cons_zero, List.setIfInBounds_toArray, List.set_cons_zero, List.set_cons_succ]
        refine wpAnyZ_ready (rs := [10]) (by kernel_rfl) (by simp) ?_
        refine AllReadyZ.cons rfl (fun K hK => ?_) AllReadyZ.nil
        go_simp
        refine (p_half y _).mono ?_
        rintro e w7 ⟨rfl, rfl⟩
        refine hK.out _ _ (fun _ => hid rfl) ?_
        clear hK K
        try simp only [Act.put, List.getElem_toArray, List.getElem_cons_succ, List.getElem_cons_zero, List.setIfInBounds_toArray, List.set_cons_zero, List.set_cons_succ]
        refine wpAnyZ_take (i := 11) (v := .int .i64 (unbN x y)) rfl (by kernel_rfl) (by kernel_rfl) (by kernel_rfl) (by kernel_rfl) (fun _ _ _ h => h) (Or.inl ⟨by rfl, fun w hSw => by go_simp <;> exact un_b x y⟩) hS ?_
        simp only [Act.put, List.getElem_toArray, List.getElem_cons_succ, List.getElem_cons_zero, List.setIfInBounds_toArray, List.set_cons_zero, List.set_cons_succ]
        refine wpAnyZ_take (i := 12) (v := .pointer (some ⟨(w0.heap.size), k, none⟩)) rfl (by kernel_rfl) (by kernel_rfl) (by kernel_rfl) (by kernel_rfl) (fun _ _ _ h => h) (Or.inl ⟨by rfl, fun w hSw => by go_simp⟩) hS ?_
        simp only [Act.put, List.getElem_toArray, List.getElem_cons_succ, List.getElem_cons_zero, List.setIfInBounds_toArray, List.set_cons_zero, List.set_cons_succ]
        refine wpAnyZ_ready (rs := [13]) (by kernel_rfl) (by simp) ?_
        refine AllReadyZ.cons rfl (fun K hK => ?_) AllReadyZ.nil
        go_simp
        refine hK.out _ _ (fun h => absurd rfl h) ?_
        clear hK K
        refine wpAnyZ_done (by kernel_rfl) ?_ _
        generalize hw9 : (wr.setCell ⟨(w0.heap.size), k, none⟩ (.int .i64 (unbN x y))).drew = w9
        have H9 : Hid (IB w9 (w0.heap.size) (zipN unbN a b (k + 1) ++ List.replicate (n - (k + 1)) 0) ∧ IB w9 (w5.heap.size) (zipN unaN a b k ++ List.replicate (n - k) 0) ∧ Below w0.heap.size w0 w9 ∧ w9.cell? ⟨(w0.heap.size), k, none⟩ = some (.int .i64 (unbN x y))) := by
          rw [← hw9]
          exact ⟨H9a.out.1, H9a.out.2.1, below_on H9a.out.2.2.1 H9a.out.2.2.1.size (below_drew _), H9a.out.2.2.2⟩
        clear hw9 H9a r0 r1 s2 f2 H1 H2 H3 hS
        have r1 := HQ1.out w9 H9.out.2.2.1
        have q8 := H9.out.2.2.2
        have s1 := H9.out.2.1.c k (by rw [List.length_append, hlx.out, List.length_replicate]; omega)
        have f1 := H9.out.2.1.fz k
        have H7a : Hid (IB (w9.setCell ⟨(w5.heap.size), k, none⟩ (.int .i64 (unaN x y))) (w5.heap.size) (zipN unaN a b (k + 1) ++ List.replicate (n - (k + 1)) 0) ∧ IB (w9.setCell ⟨(w5.heap.size), k, none⟩ (.int .i64 (unaN x y))) (w0.heap.size) (zipN unbN a b (k + 1) ++ List.replicate (n - (k + 1)) 0) ∧ Below w0.heap.size w0 (w9.setCell ⟨(w5.heap.size), k, none⟩ (.int .i64 (unaN x y)))) := by
          have hset := H9.out.2.1.set k (unaN x y)
          have he := set_at (zipN unaN a b k) (n - k) (unaN x y) (by omega)
          rw [hlx.out] at he
          rw [he, ← HZX.out, Nat.sub_sub] at hset
          exact ⟨hset, H9.out.1.keep (Below.heap_setCell _ _ _ _ (fun e => HR.out.2.2.1 e.symm)), H9.out.2.2.1.setCell HR.out.2.2.2.1 _⟩
        go_upto_region 7 with fail
        refine wp_region_Z (z := 12) (S := fun wx => Hid (wx = w9.drew)) (by kernel_rfl) (hid rfl) (fun hS => ?_)
        refine wpAnyZ_take (i := 0) (v := .slice (some ⟨(w5.heap.size), 0, none⟩) n n) rfl (by kernel_rfl) (by kernel_rfl) (by kernel_rfl) (by kernel_rfl) (fun _ _ _ h => h) (Or.inl ⟨by rfl, fun w hSw => by go_simp⟩) hS ?_
        simp only [Act.put, List.getElem_toArray, List.getElem_cons_succ, List.getElem_cons_zero, List.setIfInBounds_toArray, List.set_cons_zero, List.set_cons_succ]
        refine wpAnyZ_take (i := 1) (v := .int .i64 (k : Int)) rfl (by kernel_rfl) (by kernel_rfl) (by kernel_rfl) (by kernel_rfl) (fun _ _ _ h => h) (Or.inl ⟨by rfl, fun w hSw => by go_simp⟩) hS ?_
        simp only [Act.put, List.getElem_toArray, List.getElem_cons_succ, List.getElem_cons_zero, List.setIfInBounds_toArray, List.set_cons_zero, List.set_cons_succ]
        refine wpAnyZ_take (i := 2) (v := .slice (some ⟨(w0.heap.size), 0, none⟩) n n) rfl (by kernel_rfl) (by kernel_rfl) (by kernel_rfl) (by kernel_rfl) (fun _ _ _ h => h) (Or.inl ⟨by rfl, fun w hSw => by go_simp⟩) hS ?_
        simp only [Act.put, List.getElem_toArray, List.getElem_cons_succ, List.getElem_cons_zero, List.setIfInBounds_toArray, List.set_cons_zero, List.set_cons_succ]
        refine wpAnyZ_take (i := 3) (v := .int .i64 (k : Int)) rfl (by kernel_rfl) (by kernel_rfl) (by kernel_rfl) (by kernel_rfl) (fun _ _ _ h => h) (Or.inl ⟨by rfl, fun w hSw => by go_simp⟩) hS ?_
        simp only [Act.put, List.getElem_toArray, List.getElem_cons_succ, List.getElem_cons_zero, List.setIfInBounds_toArray, List.set_cons_zero, List.set_cons_succ]
        refine wpAnyZ_take (i := 4) (v := .pointer (some ⟨(w0.heap.size), k, none⟩)) rfl (by kernel_rfl) (by kernel_rfl) (by kernel_rfl) (by kernel_rfl) (fun _ _ _ h => h) (Or.inl ⟨by rfl, fun w hSw => by go_simp⟩) hS ?_
        simp only [Act.put, List.getElem_toArray, List.getElem_cons_succ, List.getElem_cons_zero, List.setIfInBounds_toArray, List.set_cons_zero, List.set_cons_succ]
        refine wpAnyZ_take (i := 5) (v := .int .i64 (unbN x y)) rfl (by kernel_rfl) (by kernel_rfl) (by kernel_rfl) (by kernel_rfl) (fun _ _ _ h => h) (Or.inl ⟨by rfl, fun w hSw => by have d : w.cell? ⟨(w0.heap.size), k, none⟩ = some (.int .i64 (unbN x y)) := (by rw [hSw.out]; exact q8); go_simp⟩) hS ?_
        simp only [Act.put, List.getElem_toArray, List.getElem_cons_succ, List.getElem_cons_zero, List.setIfInBounds_toArray, List.set_cons_zero, List.set_cons_succ]
        refine wpAnyZ_take (i := 6) (v := .slice (some ⟨b1, o1, none⟩) b.length bc) rfl (by kernel_rfl) (by kernel_rfl) (by kernel_rfl) (by kernel_rfl) (fun _ _ _ h => h) (Or.inl ⟨by rfl, fun w hSw => by go_simp⟩) hS ?_
        simp only [Act.put, List.getElem_toArray, List.getElem_cons_succ, List.getElem_cons_zero, List.setIfInBounds_toArray, List.set_cons_zero, List.set_cons_succ]
        refine wpAnyZ_take (i := 7) (v := .int .i64 (k : Int)) rfl (by kernel_rfl) (by kernel_rfl) (by kernel_rfl) (by kernel_rfl) (fun _ _ _ h => h) (Or.inl ⟨by rfl, fun w hSw => by go_simp⟩) hS ?_
        simp only [Act.put, List.getElem_toArray, List.getElem_cons_succ, List.getElem_cons_zero, List.setIfInBounds_toArray, List.set_cons_zero, List.set_cons_succ]
        refine wpAnyZ_take (i := 8) (v := .pointer (some ⟨b1, o1 + k, none⟩)) rfl (by kernel_rfl) (by kernel_rfl) (by kernel_rfl) (by kernel_rfl) (fun _ _ _ h => h) (Or.inl ⟨by rfl, fun w hSw => by go_simp⟩) hS ?_
        simp only [Act.put, List.getElem_toArray, List.getElem_cons_succ, List.getElem_cons_zero, List.setIfInBounds_toArray, List.set_cons_zero, List.set_cons_succ]
        refine wpAnyZ_take (i := 9) (v := .int .i64 y) rfl (by kernel_rfl) (by kernel_rfl) (by kernel_rfl) (by kernel_rfl) (fun _ _ _ h => h) (Or.inl ⟨by rfl, fun w hSw => by have d : w.cell? ⟨b1, o1 + k, none⟩ = some (.int .i64 y) := (by rw [hSw.out]; exact r1); go_simp⟩) hS ?_
        simp only [Act.put, List.getElem_toArray, List.getElem_cons_succ, List.getElem_cons_zero, List.setIfInBounds_toArray, List.set_cons_zero, List.set_cons_succ]
        refine wpAnyZ_take (i := 10) (v := .int .i64 (unaN x y)) rfl (by kernel_rfl) (by kernel_rfl) (by kernel_rfl) (by kernel_rfl) (fun _ _ _ h => h) (Or.inl ⟨by rfl, fun w hSw => by go_simp <;> exact un_a x y⟩) hS ?_
        simp only [Act.put, List.getElem_toArray, List.getElem_cons_succ, List.getElem_cons_zero, List.setIfInBounds_toArray, List.set_cons_zero, List.set_cons_succ]
        refine wpAnyZ_take (i := 11) (v := .pointer (some ⟨(w5.heap.size), k, none⟩)) rfl (by kernel_rfl) (by kernel_rfl) (by kernel_rfl) (by kernel_rfl) (fun _ _ _ h => h) (Or.inl ⟨by rfl, fun w hSw => by go_simp⟩) hS ?_
        simp only [Act.put, List.getElem_toArray, List.getElem_cons_succ, List.getElem_cons_zero, List.setIfInBounds_toArray, List.set_cons_zero, List.set_cons_succ]
        refine wpAnyZ_ready (rs := [12]) (by kernel_rfl) (by simp) ?_
        refine AllReadyZ.cons rfl (fun K hK => ?_) AllReadyZ.nil
        go_simp
        refine hK.out _ _ (fun h => absurd rfl h) ?_
        clear hK K
        refine wpAnyZ_done (by kernel_rfl) ?_ _
        go_wp2_with fail
        go_roundw
        case rel => exact ⟨k + 1, by omega, by go_num, H7a.out.1, H7a.out.2.1, below_on H7a.out.2.2 H7a.out.2.2.size (below_drew _)⟩
        case measure => simp [intOf]; omega
      · have HE : Hid (IntsAt wr (some ⟨(w5.heap.size), 0, none⟩) (zipN unaN a b n) ∧ IntsAt wr (some ⟨(w0.heap.size), 0, none⟩) (zipN unbN a b n)) := by
          have e : k = n := by omega
          have h1 := H1.out
          have h2 := H2.out
          rw [e, Nat.sub_self, List.replicate_zero, List.append_nil] at h1 h2
          exact ⟨h1.ints (by rw [zipN_len]; exact hn63) (zipN_in _ unaN_in _ _ _), h2.ints (by rw [zipN_len]; exact hn63) (zipN_in _ unbN_in _ _ _)⟩
        clear H1 H2
        go_wp2_with fail
        go_ret2
        exact ⟨some ⟨(w5.heap.size), 0, none⟩, n, some ⟨(w0.heap.size), 0, none⟩, n, by rw [zipN_len, zipN_len]; rfl, HE.out.1, HE.out.2, by rw [zipN_len]; exact Nat.le_refl _, by rw [zipN_len]; exact Nat.le_refl _, H3.out⟩

end Go.Proofs.Ytecdcmjeiogenaa
