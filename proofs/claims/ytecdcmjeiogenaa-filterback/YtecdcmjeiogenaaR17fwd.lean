/- Own text: Forward of the document's chains. -/
import Derived.Test.YtecdcmjeiogenaaR17chn
namespace Go.Proofs.Ytecdcmjeiogenaa
open Go.RowKit
set_option linter.unusedSimpArgs false
set_option linter.unusedVariables false
attribute [local go_sem] Oper.semAt_some

set_option maxRecDepth 20000 in
set_option maxHeartbeats 3200000 in
theorem xfwd {w : World} {fp : Nat → Prop} {pc : Nat} {ao : Option Addr} {cap : Nat} {Q : List (Nat × Nat)} {c : List Stp} (h : ChnAt w fp pc ao cap Q c) (x : Int) : Calls Try.prog 23 #[.pointer (some ⟨pc, 0, none⟩), .int .i64 x] w fun e w' => e = .returned (.int .i64 (goC false c x).1) ∧ ChnAt w' (grew fp w w') pc ao cap Q (goC false c x).2 ∧ Stays fp w w' := by
  have HC := hid h
  have HG : Hid (goC false c x = fwdC c (w32 x)) := rfl
  have HX := hid (w32_in x)
  have HL := hid h.len
  have hQ := h.few
  clear h
  go_enter Try.func23, Try.ntmps23
  go_wp2_with fail
  refine (xwrap x _).mono ?_
  rintro e w2 ⟨rfl, rfl⟩
  generalize w32 x = x0 at *
  go_wp2_with fail
  go_loopw [1, 5, 6] (fun s1 s5 _ wr => ∃ (i : Nat) (xi : Int) (D : List Stp), i ≤ Q.length ∧ D.length = i ∧ s1 = .int .i64 xi ∧ s5 = .int .i64 (i : Int) ∧ In32 xi ∧ fwdC c x0 = ((fwdC (c.drop i) xi).1, D ++ (fwdC (c.drop i) xi).2) ∧ ChnAt wr (grew fp w2 wr) pc ao cap Q (D ++ c.drop i) ∧ Stays fp w2 wr) (fun _ s5 _ _ => Q.length - (intOf s5).toNat)
  case atStart => exact ⟨0, x0, [], Nat.zero_le _, rfl, rfl, rfl, HX.out, by rw [List.drop_zero]; rfl, HC.out.low (Below.refl _ _) (fun k q => .inl q), Stays.refl _ _⟩
  case round =>
    obtain ⟨i, xi, D, hi, hD, rfl, rfl, hx, hf, hq, hs⟩ := hrel
    have HQ := hid hq
    have HS := hid hs
    have HF := hid hf
    have HD := hid hD
    clear hq hs hf hD
    have c0 : wr.cell? ⟨pc, 0, none⟩ = some (.slice ao Q.length cap) := HQ.out.box.c 0 _ rfl
    by_cases hlt : i < Q.length
    · obtain ⟨⟨g, bw⟩, hg⟩ : ∃ q, Q[i]? = some q := ⟨_, List.getElem?_eq_getElem hlt⟩
      obtain ⟨s, hs⟩ : ∃ s, c[i]? = some s := ⟨_, List.getElem?_eq_getElem (by rw [HL.out]; exact hlt)⟩
      have hdr : c.drop i = s :: c.drop (i + 1) := by rw [List.drop_eq_getElem_cons (by rw [HL.out]; exact hlt)]; rw [List.getElem?_eq_getElem (by rw [HL.out]; exact hlt)] at hs; injection hs with hs; rw [hs]
      have HI : Hid (Q[i]? = some (g, bw) ∧ (D ++ c.drop i)[i]? = some s ∧ s ∈ D ++ c.drop i ∧ (∀ s', (D ++ c.drop i).set i s' = D ++ [s'] ++ c.drop (i + 1)) ∧ c.drop i = s :: c.drop (i + 1)) := ⟨hg, by rw [hdr, ← HD.out, List.getElem?_append_right (Nat.le_refl _), Nat.sub_self]; rfl, by rw [hdr]; simp, fun s' => by rw [hdr, ← HD.out]; exact set_app _ _ _ _, hdr⟩
      obtain ⟨br, rfl, hf, hn, r1⟩ := HQ.out.row i g bw hg
      obtain ⟨bs, cs, hst, _⟩ := HQ.out.stp i g bw s hg HI.out.2.1
      obtain ⟨t, ht, hok⟩ := HQ.out.ok s HI.out.2.2.1
      have HO : Hid (t ≤ 32 ∧ StpOk t s) := ⟨ht, hok⟩
      have HT := hid hst
      clear hg hs hdr hf hn ht hok hst
      go_wp2_with fail
      refine (xtell HO.out.2 HO.out.1 HT.out).mono ?_
      rintro e w3 ⟨rfl, n, hw3⟩
      have hb3 : Below wr.heap.size wr w3 := by rw [hw3]; exact below_drewN _ _
      have H3 : Hid (StpAt w3 g bw bs cs s ∧ Below wr.heap.size wr w3) := ⟨HT.out.low hb3, hb3⟩
      have c03 := low_cell hb3 c0
      have r13 := low_cell hb3 r1
      clear hw3 hb3 c0 r1
      go_wp2_with fail
      refine (xwrap _ _).mono ?_
      rintro e w4 ⟨rfl, rfl⟩
      have HY : Hid (w32 (wrap64 (xi - tellS s)) = fwdS s xi) := by show _ = _; unfold fwdS wrap64 w32; omega
      rw [HY.out]
      have hy := fwdS_in s xi
      have HYD : Hid (fwdC (c.drop i) xi = ((fwdC (c.drop (i + 1)) (fwdS s xi)).1, seeS s xi (fwdS s xi) :: (fwdC (c.drop (i + 1)) (fwdS s xi)).2)) := by show _ = _; rw [HI.out.2.2.2.2]; rfl
      obtain ⟨y1, hy1⟩ : ∃ y, y = fwdS s xi := ⟨_, rfl⟩
      rw [← hy1] at hy HYD HY ⊢
      clear hy1 HY
      go_wp2_with fail
      refine (xsee HO.out.2 HO.out.1 H3.out.1 xi y1 hx).mono ?_
      rintro e w5 ⟨rfl, hp, hst⟩
      have HZ : Hid (ChnAt w5 (grew fp w2 w5) pc (some ⟨br, 0, none⟩) cap Q (D ++ [seeS s xi y1] ++ c.drop (i + 1)) ∧ Stays fp w2 w5) := by
        have h6 := (HQ.out.low H3.out.2 (fp2 := grew fp w2 wr) (fun k q => q)).step HI.out.1 hp hst (see_good HQ.out.ok HI.out.2.2.1 hx y1)
        rw [HI.out.2.2.2.1] at h6
        obtain ⟨_, _, _, f1, f2, _⟩ := HQ.out.stp i g bw s HI.out.1 HI.out.2.1
        have hsz := H3.out.2.size
        have hsz2 := hst.size
        have hsz3 := HS.out.size
        refine ⟨h6.keep (Nat.le_refl _) (fun k _ _ => rfl) (fun k q => ?_), HS.out.trans (T := grew fp w2 wr) (((Stays.of_below H3.out.2 (grew fp w2 wr))).trans (hst.mono (fun k _ q => ?_)) (fun _ _ q => q)) (fun k hk q => q.elim id (fun q => by omega))⟩
        · rcases q with (q | q) | q
          · exact .inl q
          · exact .inr (by omega)
          · exact .inr (by omega)
        · rcases q with rfl | rfl
          · exact f1
          · exact f2
      clear hp hst H3 HT HQ HS c03 r13
      go_wp2_with fail
      go_roundw
      case rel => exact ⟨i + 1, y1, D ++ [seeS s xi y1], by omega, by rw [List.length_append, HD.out]; rfl, by rfl, by go_num, hy, by rw [HF.out, HYD.out]; simp, HZ.out.1, HZ.out.2⟩
      case measure => simp [intOf]; omega
    · have HE : Hid (c.drop i = []) := List.drop_eq_nil_of_le (by rw [HL.out]; omega)
      have HR : Hid (fwdC c x0 = (xi, D)) := by show _ = _; rw [HF.out, HE.out]; simp [fwdC]
      have HW : Hid (ChnAt wr (grew fp w2 wr) pc ao cap Q D) := by show ChnAt _ _ _ _ _ _ _; have := HQ.out; rw [HE.out, List.append_nil] at this; exact this
      clear HF HE HQ
      go_wp2_with fail
      go_ret
      exact ⟨by rw [HG.out, HR.out]; rfl, by rw [HG.out, HR.out]; exact HW.out, HS.out⟩

end Go.Proofs.Ytecdcmjeiogenaa
