/- Own text: Inverse of the document's chains. -/
import Derived.Test.YtecdcmjeiogenaaR17chn
namespace Go.Proofs.Ytecdcmjeiogenaa
open Go.RowKit
set_option linter.unusedSimpArgs false
set_option linter.unusedVariables false
attribute [local go_sem] Oper.semAt_some

set_option maxRecDepth 20000 in
set_option maxHeartbeats 3200000 in
theorem xinv {w : World} {fp : Nat → Prop} {pc : Nat} {ao : Option Addr} {cap : Nat} {Q : List (Nat × Nat)} {c : List Stp} (h : ChnAt w fp pc ao cap Q c) (x : Int) : Calls Try.prog 22 #[.pointer (some ⟨pc, 0, none⟩), .int .i64 x] w fun e w' => e = .returned (.int .i64 (goC true c x).1) ∧ ChnAt w' (grew fp w w') pc ao cap Q (goC true c x).2 ∧ Stays fp w w' := by
  have HC := hid h
  have HG : Hid (goC true c x = invC c (w32 x)) := rfl
  have HX := hid (w32_in x)
  have HL := hid h.len
  have hQ := h.few
  clear h
  go_enter Try.func22, Try.ntmps22
  go_wp2_with fail
  refine (xwrap x _).mono ?_
  rintro e w2 ⟨rfl, rfl⟩
  generalize w32 x = x0 at *
  have hz0 : 0 ≤ Q.length := Nat.zero_le _
  have c0 : w2.cell? ⟨pc, 0, none⟩ = some (.slice ao Q.length cap) := HC.out.box.c 0 _ rfl
  go_wp2_with fail
  go_loopw [1, 5, 6] (fun s1 s5 _ wr => ∃ (m : Nat) (xi : Int) (B : List Stp), m ≤ Q.length ∧ s1 = .int .i64 xi ∧ s5 = .int .i64 ((m : Int) - 1) ∧ In32 xi ∧ invC (c.drop m) x0 = (xi, B) ∧ ChnAt wr (grew fp w2 wr) pc ao cap Q (c.take m ++ B) ∧ Stays fp w2 wr) (fun _ s5 _ _ => (intOf s5 + 1).toNat)
  case atStart => exact ⟨Q.length, x0, [], Nat.le_refl _, rfl, by go_num, HX.out, by rw [← HL.out, List.drop_length]; rfl, by rw [← HL.out, List.take_length, List.append_nil]; exact HC.out.low (Below.refl _ _) (fun k q => .inl q), Stays.refl _ _⟩
  case round =>
    clear c0
    obtain ⟨m, xi, B, hi, rfl, rfl, hx, hf, hq, hs⟩ := hrel
    have HQ := hid hq
    have HS := hid hs
    have HF := hid hf
    clear hq hs hf
    have c0 : wr.cell? ⟨pc, 0, none⟩ = some (.slice ao Q.length cap) := HQ.out.box.c 0 _ rfl
    by_cases hm0 : 0 < m
    · obtain ⟨i, him⟩ : ∃ i, m = i + 1 := ⟨m - 1, by omega⟩
      subst him
      have hlt : i < Q.length := by omega
      have hlc : i < c.length := by rw [HL.out]; exact hlt
      obtain ⟨⟨g, bw⟩, hg⟩ : ∃ q, Q[i]? = some q := ⟨_, List.getElem?_eq_getElem hlt⟩
      obtain ⟨s, hs⟩ : ∃ s, c[i]? = some s := ⟨_, List.getElem?_eq_getElem hlc⟩
      have hdr : c.drop i = s :: c.drop (i + 1) := by rw [List.drop_eq_getElem_cons hlc]; rw [List.getElem?_eq_getElem hlc] at hs; injection hs with hs; rw [hs]
      have htk : c.take (i + 1) = c.take i ++ [s] := by rw [List.take_add_one, hs]; rfl
      have htl : (c.take i).length = i := by rw [List.length_take]; omega
      have HI : Hid (Q[i]? = some (g, bw) ∧ (c.take (i + 1) ++ B)[i]? = some s ∧ s ∈ c.take (i + 1) ++ B ∧ (∀ s', (c.take (i + 1) ++ B).set i s' = c.take i ++ s' :: B) ∧ c.drop i = s :: c.drop (i + 1)) := ⟨hg, by rw [htk, List.append_assoc, List.getElem?_append_right (by omega), htl, Nat.sub_self]; rfl, by rw [htk]; simp, fun s' => by
        have := set_app (c.take i) B s s'
        rw [htl] at this
        rw [htk, List.append_assoc, List.singleton_append, this, List.append_assoc, List.singleton_append], hdr⟩
      obtain ⟨br, rfl, hf, hn, r1⟩ := HQ.out.row i g bw hg
      obtain ⟨bs, cs, hst, _⟩ := HQ.out.stp i g bw s hg HI.out.2.1
      obtain ⟨t, ht, hok⟩ := HQ.out.ok s HI.out.2.2.1
      have HO : Hid (t ≤ 32 ∧ StpOk t s) := ⟨ht, hok⟩
      have HT := hid hst
      have hint : ((i + 1 : Nat) : Int) - 1 = (i : Int) := by omega
      rw [hint]
      clear hg hs hdr htk htl hf hn ht hok hst hm0 hlc hint
      go_wp2_with fail
      refine (xtell HO.out.2 HO.out.1 HT.out).mono ?_
      rintro e w3 ⟨rfl, n, hw3⟩
      have hb3 : Below wr.heap.size wr w3 := by rw [hw3]; exact below_drewN _ _
      have H3 : Hid (StpAt w3 g bw bs cs s ∧ Below wr.heap.size wr w3) := ⟨HT.out.low hb3, hb3⟩
      have c03 := low_cell hb3 c0
      have r13 := low_cell hb3 r1
      clear hw3 hb3 c0 r1
      go_wp2_with fail
      refine (xwrap _ _).mono ?_
      rintro e w4 ⟨rfl, rfl⟩
      have HY : Hid (w32 (wrap64 (xi + tellS s)) = invS s xi) := by show _ = _; unfold invS wrap64 w32; omega
      rw [HY.out]
      have hy := invS_in s xi
      have HYD : Hid (invC (c.drop i) x0 = (invS s xi, seeS s (invS s xi) xi :: B)) := by show _ = _; rw [HI.out.2.2.2.2]; simp only [invC, HF.out]
      obtain ⟨y1, hy1⟩ : ∃ y, y = invS s xi := ⟨_, rfl⟩
      rw [← hy1] at hy HYD HY ⊢
      clear hy1 HY
      go_wp2_with fail
      refine (xsee HO.out.2 HO.out.1 H3.out.1 y1 xi hy).mono ?_
      rintro e w5 ⟨rfl, hp, hst⟩
      have HZ : Hid (ChnAt w5 (grew fp w2 w5) pc (some ⟨br, 0, none⟩) cap Q (c.take i ++ seeS s y1 xi :: B) ∧ Stays fp w2 w5) := by
        have h6 := (HQ.out.low H3.out.2 (fp2 := grew fp w2 wr) (fun k q => q)).step HI.out.1 hp hst (see_good HQ.out.ok HI.out.2.2.1 hy xi)
        rw [HI.out.2.2.2.1] at h6
        obtain ⟨_, _, _, f1, f2, _⟩ := HQ.out.stp i g bw s HI.out.1 HI.out.2.1
        have hsz := H3.out.2.size
        have hsz2 := hst.size
        have hsz3 := HS.out.size
        refine ⟨h6.keep (Nat.le_refl _) (fun k _ _ => rfl) (fun k q => ?_), HS.out.trans (T := grew fp w2 wr) (((Stays.of_below H3.out.2 (grew fp w2 wr))).trans (hst.mono (fun k _ q => ?_)) (fun _ _ q => q)) (fun k hk q => q.elim id (fun q => by omega))⟩
        · rcases q with (q | q) | q
          · exact .inl q
          · exact .inr (by omega)
          · exact .inr (by omega)
        · rcases q with rfl | rfl
          · exact f1
          · exact f2
      clear hp hst H3 HT HQ HS c03 r13
      go_wp2_with fail
      go_roundw
      case rel => exact ⟨i, y1, seeS s y1 xi :: B, by omega, by rfl, by go_num, hy, HYD.out, HZ.out.1, HZ.out.2⟩
      case measure => simp [intOf]
    · have hm : m = 0 := by omega
      subst hm
      have HR : Hid (invC c x0 = (xi, B)) := by have := HF.out; rw [List.drop_zero] at this; exact this
      have HW : Hid (ChnAt wr (grew fp w2 wr) pc ao cap Q B) := by have := HQ.out; rw [List.take_zero, List.nil_append] at this; exact this
      clear HF HQ
      go_wp2_with fail
      go_ret
      exact ⟨by rw [HG.out, HR.out]; rfl, by rw [HG.out, HR.out]; exact HW.out, HS.out⟩

end Go.Proofs.Ytecdcmjeiogenaa
