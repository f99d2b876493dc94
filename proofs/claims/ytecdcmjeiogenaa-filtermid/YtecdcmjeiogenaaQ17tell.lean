/- Own text: the program's steps in memory; what a step foretells. -/
import Derived.Test.YtecdcmjeiogenaaQ17small
namespace Go.Proofs.Ytecdcmjeiogenaa
open Go.RowKit
set_option linter.unusedSimpArgs false
set_option linter.unusedVariables false

/-- The first step of the program's in memory. -/
structure LastAt (w : World) (g : Nat) (s : Stp) : Prop where
  wn : s.W = []
  one : s.S.length = 1
  box : Box w g #[.int .i64 (s.S.getD 0 0)] 50
/-- A filter of the program's in memory: its box, its weights, its numbers as they were cut, its pulls. -/
structure TapAt (w : World) (g bw bn bp : Nat) (s : Stp) : Prop where
  box : Box w g #[.slice (some ⟨bw, 0, none⟩) s.W.length s.W.length, .slice (some ⟨bn, 0, none⟩) s.W.length s.W.length, .slice (some ⟨bp, 0, none⟩) s.W.length s.W.length] 67
  wts : R16 w bw s.W
  nums : R16 w bn (s.S.map cut16)
  pulls : R16 w bp (s.S.map fun x => 8 * sgn x)
  len : s.S.length = s.W.length
  two : 2 ≤ s.W.length
  few : s.W.length ≤ 32
  nd : [g, bw, bn, bp].Nodup
section
variable {w w' : World} {g bw bn bp : Nat} {s : Stp}
theorem R16.keep {b : Nat} {L : List Int} (h : R16 w b L) (he : w'.heap[b]? = w.heap[b]?) : R16 w' b L := he.trans h
theorem LastAt.keep (h : LastAt w g s) (he : w'.heap[g]? = w.heap[g]?) : LastAt w' g s := ⟨h.wn, h.one, ⟨he.trans h.box.h⟩⟩
theorem TapAt.keep (h : TapAt w g bw bn bp s) (h0 : w'.heap[g]? = w.heap[g]?) (h1 : w'.heap[bw]? = w.heap[bw]?) (h2 : w'.heap[bn]? = w.heap[bn]?) (h3 : w'.heap[bp]? = w.heap[bp]?) : TapAt w' g bw bn bp s :=
  ⟨⟨h0.trans h.box.h⟩, h.wts.keep h1, h.nums.keep h2, h.pulls.keep h3, h.len, h.two, h.few, h.nd⟩
end
theorem getD_map (f : Int → Int) (L : List Int) (k : Nat) (h : k < L.length) : (L.map f).getD k 0 = f (L.getD k 0) := by
  rw [List.getD_eq_getElem?_getD, List.getElem?_map, List.getElem?_eq_getElem h, List.getD_eq_getElem?_getD, List.getElem?_eq_getElem h]
  rfl
attribute [local go_sem] Oper.semAt_some
set_option maxRecDepth 20000 in
set_option maxHeartbeats 1600000 in
theorem p_last_tell {w : World} {g : Nat} {s : Stp} {t : Nat} (hk : StpOk t s) (h : LastAt w g s) : Calls Try.prog 50 #[.pointer (some ⟨g, 0, none⟩)] w fun e w' => e = .returned (.int .i64 (tellS s)) ∧ w' = w := by
  have c0 := h.box.c 0 _ rfl
  have hr := hk.si _ (getD_mem s.S 0 (by have := h.one; omega))
  have HT : Hid (tellS s = s.S.getD 0 0 * 31 / 32) := by
    show tellS s = _
    unfold tellS
    rw [if_pos h.wn]
    cases s.S <;> rfl
  generalize s.S.getD 0 0 = x at *
  have HT2 : Hid (tellS s = wrap64 (x * 31) / 32) := by show _ = _; rw [HT.out, wrap_64, w64_id (by unfold In32 at hr; unfold In64; omega)]
  clear hr hk h
  go_enter Try.func50, Try.ntmps50
  go_wp2_with fail
  go_ret
  exact ⟨by rw [HT2.out]; rfl, rfl⟩
set_option maxRecDepth 20000 in
set_option maxHeartbeats 3200000 in
theorem p_taps_tell {w : World} {g bw bn bp t : Nat} {s : Stp} (hk : StpOk t s) (h : TapAt w g bw bn bp s) : Calls Try.prog 52 #[.pointer (some ⟨g, 0, none⟩)] w fun e w' => e = .returned (.int .i64 (tellS s)) ∧ w' = w := by
  have HS := hid h
  have HK := hid hk
  have hwt := h.few
  have c0 := h.box.c 0 _ rfl
  have c1 := h.box.c 1 _ rfl
  have HT : Hid (tellS s = dotI s.W s.S s.W.length / 8192) := by
    show tellS s = _
    unfold tellS
    rw [if_neg (fun e => by have := h.two; rw [e] at this; simp at this), dotI_all _ _ (Nat.le_of_eq h.len.symm)]
  clear h hk
  go_enter Try.func52, Try.ntmps52
  go_wp2_with fail
  go_loopw [3, 4, 5, 11] (fun s3 _ _ s11 wr => ∃ k : Nat, k ≤ s.W.length ∧ s11 = .int .i64 (k : Int) ∧ s3 = .int .i64 (dotI s.W s.S k) ∧ wr = w) (fun _ _ _ s11 _ => s.W.length - (intOf s11).toNat)
  case atStart => exact ⟨0, Nat.zero_le _, rfl, rfl, rfl⟩
  case round =>
    obtain ⟨k, hk, rfl, rfl, rfl⟩ := hrel
    by_cases hlt : k < s.W.length
    · have r1 := HS.out.wts.c k hlt
      have hks : k < s.S.length := by rw [HS.out.len]; exact hlt
      have r2 := HS.out.nums.c k (by rw [List.length_map]; exact hks)
      rw [getD_map _ _ _ hks] at r2
      have hk32 : k ≤ 32 := by omega
      have HN : Hid (dotI s.W s.S (k + 1) = dotI s.W s.S k + s.W.getD k 0 * cut16 (s.S.getD k 0)) := rfl
      have hd := dotI_in s.W s.S HK.out.wi k hk
      have hd2 := mul_in (HK.out.wi _ (getD_mem s.W k hlt)) (cut16_in (s.S.getD k 0))
      have hw16 := HK.out.wi _ (getD_mem s.W k hlt)
      have hy16 := cut16_in (s.S.getD k 0)
      obtain ⟨d2, hd2e⟩ : ∃ d2, d2 = dotI s.W s.S (k + 1) := ⟨_, rfl⟩
      have HD2 := hid hd2e
      rw [← hd2e] at HN
      clear hd2e
      generalize dotI s.W s.S k = d at *
      generalize s.W.getD k 0 = x at *
      generalize cut16 (s.S.getD k 0) = y at *
      have HX : Hid (wrap64 x = x ∧ wrap64 y = y ∧ wrap64 (x * y) = x * y ∧ wrap64 (d + x * y) = d2) := by
        unfold In16 at hw16 hy16
        have hsum := sum_of HN.out hd hd2 hk32
        rw [wrap_is] at hsum
        refine ⟨by unfold wrap64; omega, by unfold wrap64; omega, ?_, hsum⟩
        have := wrap_of hd2.1 hd2.2
        rwa [wrap_is] at this
      clear hw16 hy16 hd hd2
      go_wp2_with fail
      go_roundw
      case rel => exact ⟨k + 1, by omega, by go_num, by rw [← HD2.out, ← HX.out.2.2.2, HX.out.1, HX.out.2.1, HX.out.2.2.1], trivial⟩
      case measure => simp [intOf]; omega
    · have hke : k = s.W.length := by omega
      have hd := dotI_in s.W s.S HK.out.wi k hk
      rw [← hke] at HT
      generalize dotI s.W s.S k = d at *
      go_wp2_with fail
      go_ret
      exact ⟨by rw [HT.out]; rfl, rfl⟩

end Go.Proofs.Ytecdcmjeiogenaa
