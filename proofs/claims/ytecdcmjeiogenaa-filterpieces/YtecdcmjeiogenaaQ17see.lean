/- Own text: a step of the program's sees a number. -/
import Derived.Test.YtecdcmjeiogenaaQ17tell
namespace Go.Proofs.Ytecdcmjeiogenaa
open Go.RowKit
set_option linter.unusedSimpArgs false
set_option linter.unusedVariables false

theorem growN_zero (left : Int) (W S : List Int) (h : sgn left = 0) (hW : ∀ w ∈ W, In16 w) : growN left W S = W := by
  induction W generalizing S with
  | nil => cases S <;> rfl
  | cons w W ih =>
    cases S with
    | nil => rfl
    | cons s S =>
      have h1 := hW w (List.mem_cons_self ..)
      simp only [growN, h]
      rw [ih S fun w hw => hW w (List.mem_cons_of_mem _ hw)]
      congr 1
      unfold In16 at h1; unfold w16; omega
theorem map_drop (f : Int → Int) (x : Int) (L : List Int) : (x :: L.dropLast).map f = f x :: (L.map f).dropLast := by
  rw [List.map_cons, List.map_dropLast]
attribute [local go_sem] Oper.semAt_some
set_option maxRecDepth 20000 in
set_option maxHeartbeats 1600000 in
theorem p_last_see {w : World} {g : Nat} {s : Stp} (h : LastAt w g s) (x left : Int) : Calls Try.prog 51 #[.pointer (some ⟨g, 0, none⟩), .int .i64 x, .int .i64 left] w fun e w' => e = .returned (.tuple #[]) ∧ LastAt w' g (seeS s x left) ∧ Stays (fun k => k = g) w w' := by
  have HS := hid h
  have c0 := h.box.c 0 _ rfl
  have hf := h.box.fz 0
  clear h
  go_enter Try.func51, Try.ntmps51
  go_wp2_with fail
  refine bodyPost_end (v := .tuple #[]) (results_none rfl _ _ _) rfl ?_
  refine ⟨rfl, ⟨?_, ?_, ⟨?_⟩⟩, (Stays.refl _ _).setCell _ _ (.inl rfl)⟩
  · show growN left s.W s.S = []
    rw [HS.out.wn]; cases s.S <;> rfl
  · show (x :: s.S.dropLast).length = 1
    rw [List.length_cons, List.length_dropLast, HS.out.one]
  · exact heap_setCell_same _ _ _ _ _ _ HS.out.box.h
/-- What a filter that has seen a number leaves. -/
def SeeT (w : World) (g bw bn bp : Nat) (s : Stp) (e : Ending) (w' : World) : Prop := e = .returned (.tuple #[]) ∧ TapAt w' g bw bn bp s ∧ Stays (fun k => k = bw ∨ k = bn ∨ k = bp) w w'

attribute [local go_sem] Oper.semAt_some
set_option maxRecDepth 20000 in
set_option maxHeartbeats 3200000 in
theorem p_taps_see {w : World} {g bw bn bp t : Nat} {s : Stp} (hk : StpOk t s) (h : TapAt w g bw bn bp s) (x left : Int) : Calls Try.prog 53 #[.pointer (some ⟨g, 0, none⟩), .int .i64 x, .int .i64 left] w (SeeT w g bw bn bp (seeS s x left)) := by
  have HS := hid h
  have HK := hid hk
  have hfew := h.few
  have c0 := h.box.c 0 _ rfl
  have c1 := h.box.c 1 _ rfl
  have c2 := h.box.c 2 _ rfl
  have HD : Hid (g ≠ bw ∧ bn ≠ bw ∧ bp ≠ bw ∧ g ≠ bn ∧ g ≠ bp ∧ bn ≠ bp) := by
    have := h.nd
    simp only [List.nodup_cons, List.mem_cons, List.not_mem_nil, or_false, not_or, not_false_eq_true, List.nodup_nil, and_true] at this
    show _ ∧ _
    omega
  clear h hk
  go_enter Try.func53, Try.ntmps53
  go_wp2_with fail
  refine (p_sign left _).mono ?_
  rintro e w1 ⟨rfl, rfl⟩
  have hsg : sgn left = 1 ∨ sgn left = -1 ∨ sgn left = 0 := by unfold sgn; split <;> (try split) <;> omega
  rcases hsg with hsg | hsg | hsg
  · have HSG := hid hsg
    rw [hsg]
    clear hsg
    go_wp2_with fail
    go_loopw [6, 7, 19] (fun _ _ sk wr => ∃ k : Nat, k ≤ s.W.length ∧ sk = .int .i64 (k : Int) ∧ R16 wr bw (grI left s.W s.S k) ∧ Stays (fun k => k = bw) w1 wr) (fun _ _ sk _ => s.W.length - (intOf sk).toNat)
    case atStart => exact ⟨0, Nat.zero_le _, rfl, HS.out.wts, Stays.refl _ _⟩
    case round =>
      clear c0 c1 c2
      obtain ⟨k, hk, rfl, hr, hy⟩ := hrel
      have HR := hid hr
      have HY := hid hy
      have HB : Hid (Box wr g #[.slice (some ⟨bw, 0, none⟩) s.W.length s.W.length, .slice (some ⟨bn, 0, none⟩) s.W.length s.W.length, .slice (some ⟨bp, 0, none⟩) s.W.length s.W.length] 67 ∧ R16 wr bn (s.S.map cut16) ∧ R16 wr bp (s.S.map fun x => 8 * sgn x)) := ⟨⟨(hy.block _ HS.out.box.lt HD.out.1).trans HS.out.box.h⟩, HS.out.nums.keep (hy.block _ HS.out.nums.lt HD.out.2.1), HS.out.pulls.keep (hy.block _ HS.out.pulls.lt HD.out.2.2.1)⟩
      clear hr hy
      have c0 := HB.out.1.c 0 _ rfl
      have c1 := HB.out.1.c 1 _ rfl
      have c2 := HB.out.1.c 2 _ rfl
      by_cases hlt : k < s.W.length
      · have hks : k < s.S.length := by rw [HS.out.len]; exact hlt
        have r1 := HR.out.c k (by rw [grI_len]; exact hlt)
        have f1 := HR.out.fz k
        have r2 := HB.out.2.2.c k (by rw [List.length_map]; exact hks)
        rw [getD_map _ _ _ hks] at r2
        have HN : Hid (grI left s.W s.S (k + 1) = (grI left s.W s.S k).set k (w16 ((grI left s.W s.S k).getD k 0 + sgn left * sgn (s.S.getD k 0) * 8))) := rfl
        rw [HSG.out] at HN
        generalize (grI left s.W s.S k).getD k 0 = a at *
        generalize sgn (s.S.getD k 0) = b at *
        have HV : Hid (IntKind.i16.wrap (a + 8 * b) = w16 (a + 1 * b * 8)) := by show _ = _; rw [wrap_16]; congr 1; omega
        go_wp2_with fail
        go_roundw
        case rel => exact ⟨k + 1, by omega, by go_num, by rw [HN.out, ← HV.out]; exact HR.out.set k _, HY.out.setCell _ _ (.inl rfl)⟩
        case measure => simp [intOf]; omega
      · have hke : k = s.W.length := by omega
        subst hke
        have H2 : Hid (Box wr g #[.slice (some ⟨bw, 0, none⟩) s.W.length s.W.length, .slice (some ⟨bn, 0, none⟩) s.W.length s.W.length, .slice (some ⟨bp, 0, none⟩) s.W.length s.W.length] 67 ∧ R16 wr bw (growN left s.W s.S) ∧ R16 wr bn (s.S.map cut16) ∧ R16 wr bp (s.S.map fun x => 8 * sgn x) ∧ Stays (fun k => k = bw) w1 wr) := ⟨HB.out.1, by rw [← grI_all left s.W s.S (Nat.le_of_eq HS.out.len.symm)]; exact HR.out, HB.out.2.1, HB.out.2.2, HY.out⟩
        clear hk hlt HR HY HB
        have HLn : Hid (s.W.length = (s.S.map cut16).length ∧ s.W.length = (s.S.map fun x => 8 * sgn x).length ∧ 2 ≤ s.W.length ∧ s.W.length ≤ 32) := ⟨by rw [List.length_map, HS.out.len], by rw [List.length_map, HS.out.len], HS.out.two, HS.out.few⟩
        obtain ⟨G, hG⟩ : ∃ G, G = growN left s.W s.S := ⟨_, rfl⟩
        have HG := hid hG
        rw [← hG] at H2
        clear hG
        obtain ⟨n, hn⟩ : ∃ n, n = s.W.length := ⟨_, rfl⟩
        have HNN := hid hn
        rw [← hn] at c0 c1 c2 HLn
        clear hn
        have hx : (x < -32768 ∧ cut16 x = -32768) ∨ (32767 < x ∧ cut16 x = 32767) ∨ (-32768 ≤ x ∧ x ≤ 32767 ∧ cut16 x = x) := by unfold cut16; (repeat' split) <;> omega
        rcases hx with ⟨h1, hv⟩ | ⟨h1, hv⟩ | ⟨h1, h2, hv⟩ <;> (
          have HV := hid hv
          clear hv
          go_wp2_with fail
          refine (p_push _ bn (s.S.map cut16) _ n HLn.out.1 (by rw [← HLn.out.1]; exact HLn.out.2.2.1) (by rw [← HLn.out.1]; have := HLn.out.2.2.2; omega) H2.out.2.2.1).mono ?_
          rintro e w4 ⟨rfl, hr4, hy4⟩
          have hr5 : R16 w4 bn (cut16 x :: (s.S.map cut16).dropLast) := by rw [HV.out]; exact hr4
          have H4 : Hid (Box w4 g #[.slice (some ⟨bw, 0, none⟩) n n, .slice (some ⟨bn, 0, none⟩) n n, .slice (some ⟨bp, 0, none⟩) n n] 67 ∧ R16 w4 bw G ∧ R16 w4 bp (s.S.map fun x => 8 * sgn x) ∧ R16 w4 bn (cut16 x :: (s.S.map cut16).dropLast) ∧ Stays (fun k => k = bw ∨ k = bn ∨ k = bp) w1 w4) := ⟨⟨(hy4.block _ H2.out.1.lt HD.out.2.2.2.1).trans (by rw [HNN.out]; exact H2.out.1.h)⟩, H2.out.2.1.keep (hy4.block _ H2.out.2.1.lt (fun e => HD.out.2.1 e.symm)), H2.out.2.2.2.1.keep (hy4.block _ H2.out.2.2.2.1.lt (fun e => HD.out.2.2.2.2.2 e.symm)), hr5, (H2.out.2.2.2.2.mono (fun _ _ q => .inl q)).trans (hy4.mono (fun _ _ q => .inr (.inl q))) (fun _ _ q => q)⟩
          clear hr4 hr5 hy4 c0 c1 c2
          have c0 := H4.out.1.c 0 _ rfl
          have c1 := H4.out.1.c 1 _ rfl
          have c2 := H4.out.1.c 2 _ rfl
          have fin9 : ∀ w9, R16 w9 bp (8 * sgn x :: (s.S.map fun x => 8 * sgn x).dropLast) → Stays (fun k => k = bp) w4.drew w9 → TapAt w9 g bw bn bp (seeS s x left) ∧ Stays (fun k => k = bw ∨ k = bn ∨ k = bp) w1 w9 := fun w9 h1 h2 => by
            have b0 := h2.block g H4.out.1.lt HD.out.2.2.2.2.1
            have b1 := h2.block bw H4.out.2.1.lt (fun e => HD.out.2.2.1 e.symm)
            have b2 := h2.block bn H4.out.2.2.2.1.lt HD.out.2.2.2.2.2
            have eW : (seeS s x left).W = G := HG.out.symm
            have eS : (seeS s x left).S = x :: s.S.dropLast := rfl
            have eL : (seeS s x left).W.length = n := by rw [eW, HG.out, growN_len, HNN.out]
            refine ⟨⟨?_, ?_, ?_, ?_, ?_, ?_, ?_, HS.out.nd⟩, (H4.out.2.2.2.2.drew).trans (h2.mono (T := fun k => k = bw ∨ k = bn ∨ k = bp) (fun _ _ q => .inr (.inr q))) (fun _ _ q => q)⟩
            · rw [eL]; exact ⟨b0.trans H4.out.1.h⟩
            · rw [eW]; exact H4.out.2.1.keep b1
            · rw [eS, map_drop]; exact H4.out.2.2.2.1.keep b2
            · rw [eS, map_drop]; exact h1
            · rw [eL, eS, List.length_cons, List.length_dropLast, HS.out.len, ← HNN.out]; have := HLn.out.2.2.1; omega
            · rw [eL]; exact HLn.out.2.2.1
            · rw [eL]; exact HLn.out.2.2.2
          have HF9 := hid fin9
          have hs3 := sgn_in x
          have HP8 : Hid (IntKind.i64.wrap (8 * sgn x) = 8 * sgn x ∧ IntKind.i16.wrap (8 * sgn x) = 8 * sgn x) := ⟨by rw [wrap_is]; unfold wrap64; omega, by rw [wrap_16]; unfold w16; omega⟩
          clear fin9
          go_upto_region 14 with fail
          refine wp_region_held_drew (S := fun wx => Hid (wx.cell? ⟨g, 2, none⟩ = some (.slice (some ⟨bp, 0, none⟩) n n))) (by kernel_rfl) (hid c2) (fun hS => ?_)
          refine wpAnyH_take (i := 0) (v := .pointer (some ⟨g, 0, none⟩)) rfl (by kernel_rfl) (by kernel_rfl) (by kernel_rfl) (fun _ _ _ h => h) (Or.inl ⟨by rfl, fun w hSw => by go_simp⟩) hS ?_
          simp only [Act.put, List.getElem_toArray, List.getElem_cons_succ, List.getElem_cons_zero, List.setIfInBounds_toArray, List.set_cons_zero, List.set_cons_succ]
          refine wpAnyH_take (i := 1) (v := .pointer (some ⟨g, 0, none⟩)) rfl (by kernel_rfl) (by kernel_rfl) (by kernel_rfl) (fun _ _ _ h => h) (Or.inl ⟨by rfl, fun w hSw => by go_simp⟩) hS ?_
          simp only [Act.put, List.getElem_toArray, List.getElem_cons_succ, List.getElem_cons_zero, List.setIfInBounds_toArray, List.set_cons_zero, List.set_cons_succ]
          refine wpAnyH_take (i := 2) (v := .pointer (some ⟨g, 2, none⟩)) rfl (by kernel_rfl) (by kernel_rfl) (by kernel_rfl) (fun _ _ _ h => h) (Or.inl ⟨by rfl, fun w hSw => by go_simp⟩) hS ?_
          simp only [Act.put, List.getElem_toArray, List.getElem_cons_succ, List.getElem_cons_zero, List.setIfInBounds_toArray, List.set_cons_zero, List.set_cons_succ]
          refine wpAnyH_take (i := 3) (v := .slice (some ⟨bp, 0, none⟩) n n) rfl (by kernel_rfl) (by kernel_rfl) (by kernel_rfl) (fun _ _ _ h => h) (Or.inl ⟨by rfl, fun w hSw => by have d := hSw.out; go_simp⟩) hS ?_
          simp only [Act.put, List.getElem_toArray, List.getElem_cons_succ, List.getElem_cons_zero, List.setIfInBounds_toArray, List.set_cons_zero, List.set_cons_succ]
          refine wpAnyH_take (i := 4) (v := .int .i64 x) rfl (by kernel_rfl) (by kernel_rfl) (by kernel_rfl) (fun _ _ _ h => h) (Or.inl ⟨by rfl, fun w hSw => by go_simp⟩) hS ?_
          simp only [Act.put, List.getElem_toArray, List.getElem_cons_succ, List.getElem_cons_zero, List.setIfInBounds_toArray, List.set_cons_zero, List.set_cons_succ]
          refine wpAnyH_ready (rs := [5]) (by kernel_rfl) (by simp) ?_
          refine AllReadyH.cons rfl (fun K hK => ?_) AllReadyH.nil
          go_simp
          refine (p_sign x _).mono ?_
          rintro e w7 ⟨rfl, rfl⟩
          refine hK.out _ _ hS (fun hS3 => ?_)
          clear hK K
          try simp only [Act.put, List.getElem_toArray, List.getElem_cons_succ, List.getElem_cons_zero, List.setIfInBounds_toArray, List.set_cons_zero, List.set_cons_succ]
          refine wpAnyH_take (i := 6) (v := .int .i64 (8 * sgn x)) rfl (by kernel_rfl) (by kernel_rfl) (by kernel_rfl) (fun _ _ _ h => h) (Or.inl ⟨by rfl, fun w hSw => by go_simp <;> exact HP8.out.1⟩) hS3 ?_
          simp only [Act.put, List.getElem_toArray, List.getElem_cons_succ, List.getElem_cons_zero, List.setIfInBounds_toArray, List.set_cons_zero, List.set_cons_succ]
          refine wpAnyH_take (i := 7) (v := .int .i16 (8 * sgn x)) rfl (by kernel_rfl) (by kernel_rfl) (by kernel_rfl) (fun _ _ _ h => h) (Or.inl ⟨by rfl, fun w hSw => by go_simp <;> exact HP8.out.2⟩) hS3 ?_
          simp only [Act.put, List.getElem_toArray, List.getElem_cons_succ, List.getElem_cons_zero, List.setIfInBounds_toArray, List.set_cons_zero, List.set_cons_succ]
          refine wpAnyH_ready (rs := [8]) (by kernel_rfl) (by simp) ?_
          refine AllReadyH.cons rfl (fun K hK => ?_) AllReadyH.nil
          go_simp
          refine (p_push w4.drew bp (s.S.map fun x => 8 * sgn x) (8 * sgn x) n HLn.out.2.1 (by rw [← HLn.out.2.1]; exact HLn.out.2.2.1) (by rw [← HLn.out.2.1]; have := HLn.out.2.2.2; omega) H4.out.2.2.1).mono ?_
          rintro e w9 ⟨rfl, hr9, hy9⟩
          have H9 := hid (HF9.out _ hr9 hy9)
          have HC9 : Hid (w9.cell? ⟨g, 2, none⟩ = some (.slice (some ⟨bp, 0, none⟩) n n)) := (World.cell?_of_block (w := w4.drew) (hy9.block g H4.out.1.lt HD.out.2.2.2.2.1)).trans c2
          clear hr9 hy9
          refine hK.out _ _ HC9 (fun hS9 => ?_)
          clear hK K
          refine wpAnyH_done (by kernel_rfl) ?_ _
          go_wp2_with fail
          refine bodyPost_end (v := .tuple #[]) (results_none rfl _ _ _) rfl ?_
          exact ⟨rfl, H9.out⟩
          )
  · have HSG := hid hsg
    rw [hsg]
    clear hsg
    go_wp2_with fail
    go_loopw [8, 9, 42] (fun _ _ sk wr => ∃ k : Nat, k ≤ s.W.length ∧ sk = .int .i64 (k : Int) ∧ R16 wr bw (grI left s.W s.S k) ∧ Stays (fun k => k = bw) w1 wr) (fun _ _ sk _ => s.W.length - (intOf sk).toNat)
    case atStart => exact ⟨0, Nat.zero_le _, rfl, HS.out.wts, Stays.refl _ _⟩
    case round =>
      clear c0 c1 c2
      obtain ⟨k, hk, rfl, hr, hy⟩ := hrel
      have HR := hid hr
      have HY := hid hy
      have HB : Hid (Box wr g #[.slice (some ⟨bw, 0, none⟩) s.W.length s.W.length, .slice (some ⟨bn, 0, none⟩) s.W.length s.W.length, .slice (some ⟨bp, 0, none⟩) s.W.length s.W.length] 67 ∧ R16 wr bn (s.S.map cut16) ∧ R16 wr bp (s.S.map fun x => 8 * sgn x)) := ⟨⟨(hy.block _ HS.out.box.lt HD.out.1).trans HS.out.box.h⟩, HS.out.nums.keep (hy.block _ HS.out.nums.lt HD.out.2.1), HS.out.pulls.keep (hy.block _ HS.out.pulls.lt HD.out.2.2.1)⟩
      clear hr hy
      have c0 := HB.out.1.c 0 _ rfl
      have c1 := HB.out.1.c 1 _ rfl
      have c2 := HB.out.1.c 2 _ rfl
      by_cases hlt : k < s.W.length
      · have hks : k < s.S.length := by rw [HS.out.len]; exact hlt
        have r1 := HR.out.c k (by rw [grI_len]; exact hlt)
        have f1 := HR.out.fz k
        have r2 := HB.out.2.2.c k (by rw [List.length_map]; exact hks)
        rw [getD_map _ _ _ hks] at r2
        have HN : Hid (grI left s.W s.S (k + 1) = (grI left s.W s.S k).set k (w16 ((grI left s.W s.S k).getD k 0 + sgn left * sgn (s.S.getD k 0) * 8))) := rfl
        rw [HSG.out] at HN
        generalize (grI left s.W s.S k).getD k 0 = a at *
        generalize sgn (s.S.getD k 0) = b at *
        have HV : Hid (IntKind.i16.wrap (a - 8 * b) = w16 (a + -1 * b * 8)) := by show _ = _; rw [wrap_16]; congr 1; omega
        go_wp2_with fail
        go_roundw
        case rel => exact ⟨k + 1, by omega, by go_num, by rw [HN.out, ← HV.out]; exact HR.out.set k _, HY.out.setCell _ _ (.inl rfl)⟩
        case measure => simp [intOf]; omega
      · have hke : k = s.W.length := by omega
        subst hke
        have H2 : Hid (Box wr g #[.slice (some ⟨bw, 0, none⟩) s.W.length s.W.length, .slice (some ⟨bn, 0, none⟩) s.W.length s.W.length, .slice (some ⟨bp, 0, none⟩) s.W.length s.W.length] 67 ∧ R16 wr bw (growN left s.W s.S) ∧ R16 wr bn (s.S.map cut16) ∧ R16 wr bp (s.S.map fun x => 8 * sgn x) ∧ Stays (fun k => k = bw) w1 wr) := ⟨HB.out.1, by rw [← grI_all left s.W s.S (Nat.le_of_eq HS.out.len.symm)]; exact HR.out, HB.out.2.1, HB.out.2.2, HY.out⟩
        clear hk hlt HR HY HB
        have HLn : Hid (s.W.length = (s.S.map cut16).length ∧ s.W.length = (s.S.map fun x => 8 * sgn x).length ∧ 2 ≤ s.W.length ∧ s.W.length ≤ 32) := ⟨by rw [List.length_map, HS.out.len], by rw [List.length_map, HS.out.len], HS.out.two, HS.out.few⟩
        obtain ⟨G, hG⟩ : ∃ G, G = growN left s.W s.S := ⟨_, rfl⟩
        have HG := hid hG
        rw [← hG] at H2
        clear hG
        obtain ⟨n, hn⟩ : ∃ n, n = s.W.length := ⟨_, rfl⟩
        have HNN := hid hn
        rw [← hn] at c0 c1 c2 HLn
        clear hn
        have hx : (x < -32768 ∧ cut16 x = -32768) ∨ (32767 < x ∧ cut16 x = 32767) ∨ (-32768 ≤ x ∧ x ≤ 32767 ∧ cut16 x = x) := by unfold cut16; (repeat' split) <;> omega
        rcases hx with ⟨h1, hv⟩ | ⟨h1, hv⟩ | ⟨h1, h2, hv⟩ <;> (
          have HV := hid hv
          clear hv
          go_wp2_with fail
          refine (p_push _ bn (s.S.map cut16) _ n HLn.out.1 (by rw [← HLn.out.1]; exact HLn.out.2.2.1) (by rw [← HLn.out.1]; have := HLn.out.2.2.2; omega) H2.out.2.2.1).mono ?_
          rintro e w4 ⟨rfl, hr4, hy4⟩
          have hr5 : R16 w4 bn (cut16 x :: (s.S.map cut16).dropLast) := by rw [HV.out]; exact hr4
          have H4 : Hid (Box w4 g #[.slice (some ⟨bw, 0, none⟩) n n, .slice (some ⟨bn, 0, none⟩) n n, .slice (some ⟨bp, 0, none⟩) n n] 67 ∧ R16 w4 bw G ∧ R16 w4 bp (s.S.map fun x => 8 * sgn x) ∧ R16 w4 bn (cut16 x :: (s.S.map cut16).dropLast) ∧ Stays (fun k => k = bw ∨ k = bn ∨ k = bp) w1 w4) := ⟨⟨(hy4.block _ H2.out.1.lt HD.out.2.2.2.1).trans (by rw [HNN.out]; exact H2.out.1.h)⟩, H2.out.2.1.keep (hy4.block _ H2.out.2.1.lt (fun e => HD.out.2.1 e.symm)), H2.out.2.2.2.1.keep (hy4.block _ H2.out.2.2.2.1.lt (fun e => HD.out.2.2.2.2.2 e.symm)), hr5, (H2.out.2.2.2.2.mono (fun _ _ q => .inl q)).trans (hy4.mono (fun _ _ q => .inr (.inl q))) (fun _ _ q => q)⟩
          clear hr4 hr5 hy4 c0 c1 c2
          have c0 := H4.out.1.c 0 _ rfl
          have c1 := H4.out.1.c 1 _ rfl
          have c2 := H4.out.1.c 2 _ rfl
          have fin9 : ∀ w9, R16 w9 bp (8 * sgn x :: (s.S.map fun x => 8 * sgn x).dropLast) → Stays (fun k => k = bp) w4.drew w9 → TapAt w9 g bw bn bp (seeS s x left) ∧ Stays (fun k => k = bw ∨ k = bn ∨ k = bp) w1 w9 := fun w9 h1 h2 => by
            have b0 := h2.block g H4.out.1.lt HD.out.2.2.2.2.1
            have b1 := h2.block bw H4.out.2.1.lt (fun e => HD.out.2.2.1 e.symm)
            have b2 := h2.block bn H4.out.2.2.2.1.lt HD.out.2.2.2.2.2
            have eW : (seeS s x left).W = G := HG.out.symm
            have eS : (seeS s x left).S = x :: s.S.dropLast := rfl
            have eL : (seeS s x left).W.length = n := by rw [eW, HG.out, growN_len, HNN.out]
            refine ⟨⟨?_, ?_, ?_, ?_, ?_, ?_, ?_, HS.out.nd⟩, (H4.out.2.2.2.2.drew).trans (h2.mono (T := fun k => k = bw ∨ k = bn ∨ k = bp) (fun _ _ q => .inr (.inr q))) (fun _ _ q => q)⟩
            · rw [eL]; exact ⟨b0.trans H4.out.1.h⟩
            · rw [eW]; exact H4.out.2.1.keep b1
            · rw [eS, map_drop]; exact H4.out.2.2.2.1.keep b2
            · rw [eS, map_drop]; exact h1
            · rw [eL, eS, List.length_cons, List.length_dropLast, HS.out.len, ← HNN.out]; have := HLn.out.2.2.1; omega
            · rw [eL]; exact HLn.out.2.2.1
            · rw [eL]; exact HLn.out.2.2.2
          have HF9 := hid fin9
          have hs3 := sgn_in x
          have HP8 : Hid (IntKind.i64.wrap (8 * sgn x) = 8 * sgn x ∧ IntKind.i16.wrap (8 * sgn x) = 8 * sgn x) := ⟨by rw [wrap_is]; unfold wrap64; omega, by rw [wrap_16]; unfold w16; omega⟩
          clear fin9
          go_upto_region 14 with fail
          refine wp_region_held_drew (S := fun wx => Hid (wx.cell? ⟨g, 2, none⟩ = some (.slice (some ⟨bp, 0, none⟩) n n))) (by kernel_rfl) (hid c2) (fun hS => ?_)
          refine wpAnyH_take (i := 0) (v := .pointer (some ⟨g, 0, none⟩)) rfl (by kernel_rfl) (by kernel_rfl) (by kernel_rfl) (fun _ _ _ h => h) (Or.inl ⟨by rfl, fun w hSw => by go_simp⟩) hS ?_
          simp only [Act.put, List.getElem_toArray, List.getElem_cons_succ, List.getElem_cons_zero, List.setIfInBounds_toArray, List.set_cons_zero, List.set_cons_succ]
          refine wpAnyH_take (i := 1) (v := .pointer (some ⟨g, 0, none⟩)) rfl (by kernel_rfl) (by kernel_rfl) (by kernel_rfl) (fun _ _ _ h => h) (Or.inl ⟨by rfl, fun w hSw => by go_simp⟩) hS ?_
          simp only [Act.put, List.getElem_toArray, List.getElem_cons_succ, List.getElem_cons_zero, List.setIfInBounds_toArray, List.set_cons_zero, List.set_cons_succ]
          refine wpAnyH_take (i := 2) (v := .pointer (some ⟨g, 2, none⟩)) rfl (by kernel_rfl) (by kernel_rfl) (by kernel_rfl) (fun _ _ _ h => h) (Or.inl ⟨by rfl, fun w hSw => by go_simp⟩) hS ?_
          simp only [Act.put, List.getElem_toArray, List.getElem_cons_succ, List.getElem_cons_zero, List.setIfInBounds_toArray, List.set_cons_zero, List.set_cons_succ]
          refine wpAnyH_take (i := 3) (v := .slice (some ⟨bp, 0, none⟩) n n) rfl (by kernel_rfl) (by kernel_rfl) (by kernel_rfl) (fun _ _ _ h => h) (Or.inl ⟨by rfl, fun w hSw => by have d := hSw.out; go_simp⟩) hS ?_
          simp only [Act.put, List.getElem_toArray, List.getElem_cons_succ, List.getElem_cons_zero, List.setIfInBounds_toArray, List.set_cons_zero, List.set_cons_succ]
          refine wpAnyH_take (i := 4) (v := .int .i64 x) rfl (by kernel_rfl) (by kernel_rfl) (by kernel_rfl) (fun _ _ _ h => h) (Or.inl ⟨by rfl, fun w hSw => by go_simp⟩) hS ?_
          simp only [Act.put, List.getElem_toArray, List.getElem_cons_succ, List.getElem_cons_zero, List.setIfInBounds_toArray, List.set_cons_zero, List.set_cons_succ]
          refine wpAnyH_ready (rs := [5]) (by kernel_rfl) (by simp) ?_
          refine AllReadyH.cons rfl (fun K hK => ?_) AllReadyH.nil
          go_simp
          refine (p_sign x _).mono ?_
          rintro e w7 ⟨rfl, rfl⟩
          refine hK.out _ _ hS (fun hS3 => ?_)
          clear hK K
          try simp only [Act.put, List.getElem_toArray, List.getElem_cons_succ, List.getElem_cons_zero, List.setIfInBounds_toArray, List.set_cons_zero, List.set_cons_succ]
          refine wpAnyH_take (i := 6) (v := .int .i64 (8 * sgn x)) rfl (by kernel_rfl) (by kernel_rfl) (by kernel_rfl) (fun _ _ _ h => h) (Or.inl ⟨by rfl, fun w hSw => by go_simp <;> exact HP8.out.1⟩) hS3 ?_
          simp only [Act.put, List.getElem_toArray, List.getElem_cons_succ, List.getElem_cons_zero, List.setIfInBounds_toArray, List.set_cons_zero, List.set_cons_succ]
          refine wpAnyH_take (i := 7) (v := .int .i16 (8 * sgn x)) rfl (by kernel_rfl) (by kernel_rfl) (by kernel_rfl) (fun _ _ _ h => h) (Or.inl ⟨by rfl, fun w hSw => by go_simp <;> exact HP8.out.2⟩) hS3 ?_
          simp only [Act.put, List.getElem_toArray, List.getElem_cons_succ, List.getElem_cons_zero, List.setIfInBounds_toArray, List.set_cons_zero, List.set_cons_succ]
          refine wpAnyH_ready (rs := [8]) (by kernel_rfl) (by simp) ?_
          refine AllReadyH.cons rfl (fun K hK => ?_) AllReadyH.nil
          go_simp
          refine (p_push w4.drew bp (s.S.map fun x => 8 * sgn x) (8 * sgn x) n HLn.out.2.1 (by rw [← HLn.out.2.1]; exact HLn.out.2.2.1) (by rw [← HLn.out.2.1]; have := HLn.out.2.2.2; omega) H4.out.2.2.1).mono ?_
          rintro e w9 ⟨rfl, hr9, hy9⟩
          have H9 := hid (HF9.out _ hr9 hy9)
          have HC9 : Hid (w9.cell? ⟨g, 2, none⟩ = some (.slice (some ⟨bp, 0, none⟩) n n)) := (World.cell?_of_block (w := w4.drew) (hy9.block g H4.out.1.lt HD.out.2.2.2.2.1)).trans c2
          clear hr9 hy9
          refine hK.out _ _ HC9 (fun hS9 => ?_)
          clear hK K
          refine wpAnyH_done (by kernel_rfl) ?_ _
          go_wp2_with fail
          refine bodyPost_end (v := .tuple #[]) (results_none rfl _ _ _) rfl ?_
          exact ⟨rfl, H9.out⟩
          )
  · have H2 : Hid (Box w1 g #[.slice (some ⟨bw, 0, none⟩) s.W.length s.W.length, .slice (some ⟨bn, 0, none⟩) s.W.length s.W.length, .slice (some ⟨bp, 0, none⟩) s.W.length s.W.length] 67 ∧ R16 w1 bw (growN left s.W s.S) ∧ R16 w1 bn (s.S.map cut16) ∧ R16 w1 bp (s.S.map fun x => 8 * sgn x) ∧ Stays (fun k => k = bw) w1 w1) := ⟨HS.out.box, by rw [growN_zero left s.W s.S hsg HK.out.wi]; exact HS.out.wts, HS.out.nums, HS.out.pulls, Stays.refl _ _⟩
    rw [hsg]
    clear hsg
    have HLn : Hid (s.W.length = (s.S.map cut16).length ∧ s.W.length = (s.S.map fun x => 8 * sgn x).length ∧ 2 ≤ s.W.length ∧ s.W.length ≤ 32) := ⟨by rw [List.length_map, HS.out.len], by rw [List.length_map, HS.out.len], HS.out.two, HS.out.few⟩
    obtain ⟨G, hG⟩ : ∃ G, G = growN left s.W s.S := ⟨_, rfl⟩
    have HG := hid hG
    rw [← hG] at H2
    clear hG
    obtain ⟨n, hn⟩ : ∃ n, n = s.W.length := ⟨_, rfl⟩
    have HNN := hid hn
    rw [← hn] at c0 c1 c2 HLn
    clear hn
    have hx : (x < -32768 ∧ cut16 x = -32768) ∨ (32767 < x ∧ cut16 x = 32767) ∨ (-32768 ≤ x ∧ x ≤ 32767 ∧ cut16 x = x) := by unfold cut16; (repeat' split) <;> omega
    rcases hx with ⟨h1, hv⟩ | ⟨h1, hv⟩ | ⟨h1, h2, hv⟩ <;> (
      have HV := hid hv
      clear hv
      go_wp2_with fail
      refine (p_push _ bn (s.S.map cut16) _ n HLn.out.1 (by rw [← HLn.out.1]; exact HLn.out.2.2.1) (by rw [← HLn.out.1]; have := HLn.out.2.2.2; omega) H2.out.2.2.1).mono ?_
      rintro e w4 ⟨rfl, hr4, hy4⟩
      have hr5 : R16 w4 bn (cut16 x :: (s.S.map cut16).dropLast) := by rw [HV.out]; exact hr4
      have H4 : Hid (Box w4 g #[.slice (some ⟨bw, 0, none⟩) n n, .slice (some ⟨bn, 0, none⟩) n n, .slice (some ⟨bp, 0, none⟩) n n] 67 ∧ R16 w4 bw G ∧ R16 w4 bp (s.S.map fun x => 8 * sgn x) ∧ R16 w4 bn (cut16 x :: (s.S.map cut16).dropLast) ∧ Stays (fun k => k = bw ∨ k = bn ∨ k = bp) w1 w4) := ⟨⟨(hy4.block _ H2.out.1.lt HD.out.2.2.2.1).trans (by rw [HNN.out]; exact H2.out.1.h)⟩, H2.out.2.1.keep (hy4.block _ H2.out.2.1.lt (fun e => HD.out.2.1 e.symm)), H2.out.2.2.2.1.keep (hy4.block _ H2.out.2.2.2.1.lt (fun e => HD.out.2.2.2.2.2 e.symm)), hr5, (H2.out.2.2.2.2.mono (fun _ _ q => .inl q)).trans (hy4.mono (fun _ _ q => .inr (.inl q))) (fun _ _ q => q)⟩
      clear hr4 hr5 hy4 c0 c1 c2
      have c0 := H4.out.1.c 0 _ rfl
      have c1 := H4.out.1.c 1 _ rfl
      have c2 := H4.out.1.c 2 _ rfl
      have fin9 : ∀ w9, R16 w9 bp (8 * sgn x :: (s.S.map fun x => 8 * sgn x).dropLast) → Stays (fun k => k = bp) w4.drew w9 → TapAt w9 g bw bn bp (seeS s x left) ∧ Stays (fun k => k = bw ∨ k = bn ∨ k = bp) w1 w9 := fun w9 h1 h2 => by
        have b0 := h2.block g H4.out.1.lt HD.out.2.2.2.2.1
        have b1 := h2.block bw H4.out.2.1.lt (fun e => HD.out.2.2.1 e.symm)
        have b2 := h2.block bn H4.out.2.2.2.1.lt HD.out.2.2.2.2.2
        have eW : (seeS s x left).W = G := HG.out.symm
        have eS : (seeS s x left).S = x :: s.S.dropLast := rfl
        have eL : (seeS s x left).W.length = n := by rw [eW, HG.out, growN_len, HNN.out]
        refine ⟨⟨?_, ?_, ?_, ?_, ?_, ?_, ?_, HS.out.nd⟩, (H4.out.2.2.2.2.drew).trans (h2.mono (T := fun k => k = bw ∨ k = bn ∨ k = bp) (fun _ _ q => .inr (.inr q))) (fun _ _ q => q)⟩
        · rw [eL]; exact ⟨b0.trans H4.out.1.h⟩
        · rw [eW]; exact H4.out.2.1.keep b1
        · rw [eS, map_drop]; exact H4.out.2.2.2.1.keep b2
        · rw [eS, map_drop]; exact h1
        · rw [eL, eS, List.length_cons, List.length_dropLast, HS.out.len, ← HNN.out]; have := HLn.out.2.2.1; omega
        · rw [eL]; exact HLn.out.2.2.1
        · rw [eL]; exact HLn.out.2.2.2
      have HF9 := hid fin9
      have hs3 := sgn_in x
      have HP8 : Hid (IntKind.i64.wrap (8 * sgn x) = 8 * sgn x ∧ IntKind.i16.wrap (8 * sgn x) = 8 * sgn x) := ⟨by rw [wrap_is]; unfold wrap64; omega, by rw [wrap_16]; unfold w16; omega⟩
      clear fin9
      go_upto_region 14 with fail
      refine wp_region_held_drew (S := fun wx => Hid (wx.cell? ⟨g, 2, none⟩ = some (.slice (some ⟨bp, 0, none⟩) n n))) (by kernel_rfl) (hid c2) (fun hS => ?_)
      refine wpAnyH_take (i := 0) (v := .pointer (some ⟨g, 0, none⟩)) rfl (by kernel_rfl) (by kernel_rfl) (by kernel_rfl) (fun _ _ _ h => h) (Or.inl ⟨by rfl, fun w hSw => by go_simp⟩) hS ?_
      simp only [Act.put, List.getElem_toArray, List.getElem_cons_succ, List.getElem_cons_zero, List.setIfInBounds_toArray, List.set_cons_zero, List.set_cons_succ]
      refine wpAnyH_take (i := 1) (v := .pointer (some ⟨g, 0, none⟩)) rfl (by kernel_rfl) (by kernel_rfl) (by kernel_rfl) (fun _ _ _ h => h) (Or.inl ⟨by rfl, fun w hSw => by go_simp⟩) hS ?_
      simp only [Act.put, List.getElem_toArray, List.getElem_cons_succ, List.getElem_cons_zero, List.setIfInBounds_toArray, List.set_cons_zero, List.set_cons_succ]
      refine wpAnyH_take (i := 2) (v := .pointer (some ⟨g, 2, none⟩)) rfl (by kernel_rfl) (by kernel_rfl) (by kernel_rfl) (fun _ _ _ h => h) (Or.inl ⟨by rfl, fun w hSw => by go_simp⟩) hS ?_
      simp only [Act.put, List.getElem_toArray, List.getElem_cons_succ, List.getElem_cons_zero, List.setIfInBounds_toArray, List.set_cons_zero, List.set_cons_succ]
      refine wpAnyH_take (i := 3) (v := .slice (some ⟨bp, 0, none⟩) n n) rfl (by kernel_rfl) (by kernel_rfl) (by kernel_rfl) (fun _ _ _ h => h) (Or.inl ⟨by rfl, fun w hSw => by have d := hSw.out; go_simp⟩) hS ?_
      simp only [Act.put, List.getElem_toArray, List.getElem_cons_succ, List.getElem_cons_zero, List.setIfInBounds_toArray, List.set_cons_zero, List.set_cons_succ]
      refine wpAnyH_take (i := 4) (v := .int .i64 x) rfl (by kernel_rfl) (by kernel_rfl) (by kernel_rfl) (fun _ _ _ h => h) (Or.inl ⟨by rfl, fun w hSw => by go_simp⟩) hS ?_
      simp only [Act.put, List.getElem_toArray, List.getElem_cons_succ, List.getElem_cons_zero, List.setIfInBounds_toArray, List.set_cons_zero, List.set_cons_succ]
      refine wpAnyH_ready (rs := [5]) (by kernel_rfl) (by simp) ?_
      refine AllReadyH.cons rfl (fun K hK => ?_) AllReadyH.nil
      go_simp
      refine (p_sign x _).mono ?_
      rintro e w7 ⟨rfl, rfl⟩
      refine hK.out _ _ hS (fun hS3 => ?_)
      clear hK K
      try simp only [Act.put, List.getElem_toArray, List.getElem_cons_succ, List.getElem_cons_zero, List.setIfInBounds_toArray, List.set_cons_zero, List.set_cons_succ]
      refine wpAnyH_take (i := 6) (v := .int .i64 (8 * sgn x)) rfl (by kernel_rfl) (by kernel_rfl) (by kernel_rfl) (fun _ _ _ h => h) (Or.inl ⟨by rfl, fun w hSw => by go_simp <;> exact HP8.out.1⟩) hS3 ?_
      simp only [Act.put, List.getElem_toArray, List.getElem_cons_succ, List.getElem_cons_zero, List.setIfInBounds_toArray, List.set_cons_zero, List.set_cons_succ]
      refine wpAnyH_take (i := 7) (v := .int .i16 (8 * sgn x)) rfl (by kernel_rfl) (by kernel_rfl) (by kernel_rfl) (fun _ _ _ h => h) (Or.inl ⟨by rfl, fun w hSw => by go_simp <;> exact HP8.out.2⟩) hS3 ?_
      simp only [Act.put, List.getElem_toArray, List.getElem_cons_succ, List.getElem_cons_zero, List.setIfInBounds_toArray, List.set_cons_zero, List.set_cons_succ]
      refine wpAnyH_ready (rs := [8]) (by kernel_rfl) (by simp) ?_
      refine AllReadyH.cons rfl (fun K hK => ?_) AllReadyH.nil
      go_simp
      refine (p_push w4.drew bp (s.S.map fun x => 8 * sgn x) (8 * sgn x) n HLn.out.2.1 (by rw [← HLn.out.2.1]; exact HLn.out.2.2.1) (by rw [← HLn.out.2.1]; have := HLn.out.2.2.2; omega) H4.out.2.2.1).mono ?_
      rintro e w9 ⟨rfl, hr9, hy9⟩
      have H9 := hid (HF9.out _ hr9 hy9)
      have HC9 : Hid (w9.cell? ⟨g, 2, none⟩ = some (.slice (some ⟨bp, 0, none⟩) n n)) := (World.cell?_of_block (w := w4.drew) (hy9.block g H4.out.1.lt HD.out.2.2.2.2.1)).trans c2
      clear hr9 hy9
      refine hK.out _ _ HC9 (fun hS9 => ?_)
      clear hK K
      refine wpAnyH_done (by kernel_rfl) ?_ _
      go_wp2_with fail
      refine bodyPost_end (v := .tuple #[]) (results_none rfl _ _ _) rfl ?_
      exact ⟨rfl, H9.out⟩
      )

end Go.Proofs.Ytecdcmjeiogenaa
