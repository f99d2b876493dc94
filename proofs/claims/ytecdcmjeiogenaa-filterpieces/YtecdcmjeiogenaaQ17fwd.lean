/- Own text: Forward of the program's chains. -/
import Derived.Test.YtecdcmjeiogenaaQ17chn
namespace Go.Proofs.Ytecdcmjeiogenaa
open Go.RowKit
set_option linter.unusedSimpArgs false
set_option linter.unusedVariables false
attribute [local go_sem] Oper.semAt_some

set_option maxRecDepth 20000 in
set_option maxHeartbeats 3200000 in
theorem p_cf {w : World} {fp : Nat → Prop} {pc : Nat} {ao : Option Addr} {cap : Nat} {Q : List Dsc} {c : List Stp} (h : PChn w fp pc ao cap Q c) (x : Int) : Calls Try.prog 20 #[.pointer (some ⟨pc, 0, none⟩), .int .i64 x] w fun e w' => e = .returned (.int .i64 (goC false c x).1) ∧ PChn w' (grew fp w w') pc ao cap Q (goC false c x).2 ∧ Stays fp w w' := by
  have HC := hid h
  have HG : Hid (goC false c x = fwdC c (w32 x)) := rfl
  have HX := hid (w32_in x)
  have HL := hid h.len
  have hQ := h.few
  clear h
  go_enter Try.func20, Try.ntmps20
  go_wp2_with fail
  refine (p_wrap x _).mono ?_
  rintro e w2 ⟨rfl, rfl⟩
  generalize w32 x = x0 at *
  have c0 : w2.cell? ⟨pc, 0, none⟩ = some (.slice ao Q.length cap) := HC.out.box.c 0 _ rfl
  go_wp2_with fail
  go_loopw [1, 6, 7, 17] (fun s1 _ _ s5 wr => ∃ (i : Nat) (xi : Int) (D : List Stp), i ≤ Q.length ∧ D.length = i ∧ s1 = .int .i64 xi ∧ s5 = .int .i64 (i : Int) ∧ In32 xi ∧ fwdC c x0 = ((fwdC (c.drop i) xi).1, D ++ (fwdC (c.drop i) xi).2) ∧ PChn wr (grew fp w2 wr) pc ao cap Q (D ++ c.drop i) ∧ Stays fp w2 wr) (fun _ _ _ s5 _ => Q.length - (intOf s5).toNat)
  case atStart => exact ⟨0, x0, [], Nat.zero_le _, rfl, rfl, rfl, HX.out, by rw [List.drop_zero]; rfl, HC.out.keep (fun _ _ _ => rfl) (fun k q => .inl q), Stays.refl _ _⟩
  case round =>
    clear c0
    obtain ⟨i, xi, D, hi, hD, rfl, rfl, hx, hf, hq, hs⟩ := hrel
    have HQ := hid hq
    have HS := hid hs
    have HF := hid hf
    have HD := hid hD
    clear hq hs hf hD
    by_cases hlt : i < Q.length
    · obtain ⟨d, hg⟩ : ∃ q, Q[i]? = some q := ⟨_, List.getElem?_eq_getElem hlt⟩
      obtain ⟨s, hs⟩ : ∃ s, c[i]? = some s := ⟨_, List.getElem?_eq_getElem (by rw [HL.out]; exact hlt)⟩
      have hdr : c.drop i = s :: c.drop (i + 1) := by rw [List.drop_eq_getElem_cons (by rw [HL.out]; exact hlt)]; rw [List.getElem?_eq_getElem (by rw [HL.out]; exact hlt)] at hs; injection hs with hs; rw [hs]
      have HI : Hid (Q[i]? = some d ∧ (D ++ c.drop i)[i]? = some s ∧ s ∈ D ++ c.drop i ∧ (∀ s', (D ++ c.drop i).set i s' = D ++ [s'] ++ c.drop (i + 1)) ∧ c.drop i = s :: c.drop (i + 1)) := ⟨hg, by rw [hdr, ← HD.out, List.getElem?_append_right (Nat.le_refl _), Nat.sub_self]; rfl, by rw [hdr]; simp, fun s' => by rw [hdr, ← HD.out]; exact set_app _ _ _ _, hdr⟩
      obtain ⟨br, rfl, hf, hn, r1⟩ := HQ.out.row i d hg
      obtain ⟨hst0, _⟩ := HQ.out.stp i d s hg HI.out.2.1
      obtain ⟨t, ht, hok⟩ := HQ.out.ok s HI.out.2.2.1
      have HO : Hid (t ≤ 32 ∧ StpOk t s) := ⟨ht, hok⟩
      clear hg hs hdr hf hn ht hok
      obtain ⟨tp, g, bw, bn, bp⟩ := d
      cases tp with
      | false =>
        have HT : Hid (LastAt wr g s) := hst0
        clear hst0
        have r1' : wr.cell? ⟨br, i, none⟩ = some (.iface 48 (.pointer (some ⟨g, 0, none⟩))) := r1
        clear r1
        go_wp2_with fail
        refine (p_last_tell HO.out.2 HT.out).mono ?_
        rintro e w3 ⟨rfl, rfl⟩
        go_wp2_with fail
        refine (p_wrap _ _).mono ?_
        rintro e w4 ⟨rfl, rfl⟩
        have HY : Hid (w32 (wrap64 (xi - tellS s)) = fwdS s xi) := by show _ = _; unfold fwdS wrap64 w32; omega
        rw [HY.out]
        have hy := fwdS_in s xi
        have HYD : Hid (fwdC (c.drop i) xi = ((fwdC (c.drop (i + 1)) (fwdS s xi)).1, seeS s xi (fwdS s xi) :: (fwdC (c.drop (i + 1)) (fwdS s xi)).2)) := by show _ = _; rw [HI.out.2.2.2.2]; rfl
        obtain ⟨y1, hy1⟩ : ∃ y, y = fwdS s xi := ⟨_, rfl⟩
        rw [← hy1] at hy HYD HY ⊢
        clear hy1 HY
        go_wp2_with fail
        refine (p_last_see HT.out xi y1).mono ?_
        rintro e w5 ⟨rfl, hp, hst⟩
        have HZ : Hid (PChn w5 (grew fp w2 w5) pc (some ⟨br, 0, none⟩) cap Q (D ++ [seeS s xi y1] ++ c.drop (i + 1)) ∧ Stays fp w2 w5) := by
          have hsz2 := hst.size
          have hsz3 := HS.out.size
          have h6 := HQ.out.step HI.out.1 HI.out.2.1 (s' := seeS s xi y1) hp (hst.mono (fun k _ q => by rw [q]; simp [Dsc.ow])) (see_goodS HQ.out.ok HI.out.2.2.1 hx y1)
          rw [HI.out.2.2.2.1] at h6
          obtain ⟨r6, f6⟩ := HQ.out.stp i _ s HI.out.1 HI.out.2.1
          refine ⟨h6.keep (fun k _ _ => rfl) (fun k q => ?_), HS.out.trans (T := grew fp w2 _) (hst.mono (fun k _ q => f6 k ((fun k _ q => by rw [q]; simp [Dsc.ow]) k (by omega) q))) (fun k hk q => q.elim id (fun q => by omega))⟩
          rcases q with (q | q) | q
          · exact .inl q
          · exact .inr (by omega)
          · exact .inr (by omega)
        clear hp hst HT HQ HS
        go_wp2_with fail
        go_roundw
        case rel => exact ⟨i + 1, y1, D ++ [seeS s xi y1], by omega, by rw [List.length_append, HD.out]; rfl, by rfl, by go_num, hy, by rw [HF.out, HYD.out]; simp, HZ.out.1, HZ.out.2⟩
        case measure => simp [intOf]; omega
      | true =>
        have HT : Hid (TapAt wr g bw bn bp s) := hst0
        clear hst0
        have r1' : wr.cell? ⟨br, i, none⟩ = some (.iface 51 (.pointer (some ⟨g, 0, none⟩))) := r1
        clear r1
        go_wp2_with fail
        refine (p_taps_tell HO.out.2 HT.out).mono ?_
        rintro e w3 ⟨rfl, rfl⟩
        go_wp2_with fail
        refine (p_wrap _ _).mono ?_
        rintro e w4 ⟨rfl, rfl⟩
        have HY : Hid (w32 (wrap64 (xi - tellS s)) = fwdS s xi) := by show _ = _; unfold fwdS wrap64 w32; omega
        rw [HY.out]
        have hy := fwdS_in s xi
        have HYD : Hid (fwdC (c.drop i) xi = ((fwdC (c.drop (i + 1)) (fwdS s xi)).1, seeS s xi (fwdS s xi) :: (fwdC (c.drop (i + 1)) (fwdS s xi)).2)) := by show _ = _; rw [HI.out.2.2.2.2]; rfl
        obtain ⟨y1, hy1⟩ : ∃ y, y = fwdS s xi := ⟨_, rfl⟩
        rw [← hy1] at hy HYD HY ⊢
        clear hy1 HY
        go_wp2_with fail
        refine (p_taps_see HO.out.2 HT.out xi y1).mono ?_
        rintro e w5 ⟨rfl, hp, hst⟩
        have HZ : Hid (PChn w5 (grew fp w2 w5) pc (some ⟨br, 0, none⟩) cap Q (D ++ [seeS s xi y1] ++ c.drop (i + 1)) ∧ Stays fp w2 w5) := by
          have hsz2 := hst.size
          have hsz3 := HS.out.size
          have h6 := HQ.out.step HI.out.1 HI.out.2.1 (s' := seeS s xi y1) hp (hst.mono (fun k _ q => by rcases q with rfl | rfl | rfl <;> simp [Dsc.ow])) (see_goodS HQ.out.ok HI.out.2.2.1 hx y1)
          rw [HI.out.2.2.2.1] at h6
          obtain ⟨r6, f6⟩ := HQ.out.stp i _ s HI.out.1 HI.out.2.1
          refine ⟨h6.keep (fun k _ _ => rfl) (fun k q => ?_), HS.out.trans (T := grew fp w2 _) (hst.mono (fun k _ q => f6 k ((fun k _ q => by rcases q with rfl | rfl | rfl <;> simp [Dsc.ow]) k (by omega) q))) (fun k hk q => q.elim id (fun q => by omega))⟩
          rcases q with (q | q) | q
          · exact .inl q
          · exact .inr (by omega)
          · exact .inr (by omega)
        clear hp hst HT HQ HS
        go_wp2_with fail
        go_roundw
        case rel => exact ⟨i + 1, y1, D ++ [seeS s xi y1], by omega, by rw [List.length_append, HD.out]; rfl, by rfl, by go_num, hy, by rw [HF.out, HYD.out]; simp, HZ.out.1, HZ.out.2⟩
        case measure => simp [intOf]; omega
    · have HE : Hid (c.drop i = []) := List.drop_eq_nil_of_le (by rw [HL.out]; omega)
      have HR : Hid (fwdC c x0 = (xi, D)) := by show _ = _; rw [HF.out, HE.out]; simp [fwdC]
      have HW : Hid (PChn wr (grew fp w2 wr) pc ao cap Q D) := by show PChn _ _ _ _ _ _ _; have := HQ.out; rw [HE.out, List.append_nil] at this; exact this
      clear HF HE HQ
      go_wp2_with fail
      go_ret
      exact ⟨by rw [HG.out, HR.out]; rfl, by rw [HG.out, HR.out]; exact HW.out, HS.out⟩

set_option maxRecDepth 20000 in
set_option maxHeartbeats 800000 in
theorem p_cf_nil (x : Int) (w : World) : Calls Try.prog 20 #[.pointer none, .int .i64 x] w fun e w' => e = .returned (.int .i64 0) ∧ w' = w := by
  go_enter Try.func20, Try.ntmps20
  go_wp2_with fail
  go_ret
  exact ⟨rfl, rfl⟩

end Go.Proofs.Ytecdcmjeiogenaa
