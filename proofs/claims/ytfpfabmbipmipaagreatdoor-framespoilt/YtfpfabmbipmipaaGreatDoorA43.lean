/- Own text. -/
import Derived.Test.YtfpfabmbipmipaaGreatDoorA42
set_option linter.unusedSimpArgs false
set_option linter.unusedVariables false
set_option maxRecDepth 20000
set_option maxHeartbeats 12800000
namespace Go.Proofs.YtfpfabmbipmipaaGreatDoor
open Go.RowKit
def NoFr (B : List Nat) (i : Inf) : Prop := ∀ f P R, okF f i P -> B ≠ frL f i P ++ R
theorem parse_no (s : ByteArray) (hs : s.size <= 140737488351232) (a b c d : Int) (i : Inf) (e : Int) (sc : ByteArray) (hno : NoFr (bytesOf s) i) (w : World) (hL : Lay w) :
  Calls Tryz.prog 13 #[.string s, infV a b c d i e sc] w fun en w' => ∃ er : Int, ¬ er = 0 /\ en = .returned (.tuple #[.slice none 0 0, fmV F0 none 0, .int .i64 0, .int .i64 er]) /\ Lo w w' := by
 have two_ : ∀ {er : Int}, ¬ er = 0 -> Calls Tryz.prog 13 #[.string s, infV a b c d i e sc] w (fun en w' => en = .returned (.tuple #[.slice none 0 0, fmV F0 none 0, .int .i64 0, .int .i64 er]) /\ Lo w w') -> Calls Tryz.prog 13 #[.string s, infV a b c d i e sc] w fun en w' => ∃ er : Int, ¬ er = 0 /\ en = .returned (.tuple #[.slice none 0 0, fmV F0 none 0, .int .i64 0, .int .i64 er]) /\ Lo w w' := fun {er} h0 h => h.mono fun en w' q => ⟨er, h0, q.1, q.2⟩
 have hbs : (bytesOf s).length = s.size := bytesOf_length s
 have hbl := bytesOf_lt s
 obtain ⟨B, hBd⟩ : ∃ B, B = bytesOf s := ⟨_, rfl⟩
 rw [<- hBd] at hno hbs hbl
 by_cases h4 : s.size < 4
 ·exact two_ (er := 2) (by decide) (grp2.1 s hs a b c d i e sc w hL (fun x wx hr hl hx4 => grp1.1 x s hs h4 wx hr hl hx4))
 obtain ⟨c1, c2, c3, c4, c5, c6, c7⟩ := codes_at s B hBd.symm (by omega)
 by_cases hm : hdOk4 B
 case neg =>
  exact two_ (er := 2) (by decide) (grp2.1 s hs a b c d i e sc w hL (fun x wx hr hl hx4 => grp1.2.1 x s hs (by omega) _ _ _ _ _ _ _ c1 c2 c3 c4 c5 c6 c7 _ rfl (fun h => hm ((mark_iff B hbl (by omega)).1 h)) wx hr hl hx4))
 have hy := (mark_iff B hbl (by omega)).2 hm
 obtain ⟨num, k, er, hu⟩ : ∃ num k er, uncode (B.drop 4) = (num, k, er) := ⟨_, _, _, rfl⟩
 by_cases her : er = 0
 case neg =>
  exact two_ (er := 2) (by decide) (grp2.1 s hs a b c d i e sc w hL (fun x wx hr hl hx4 => grp1.2.2.1 x s hs (by omega) _ _ _ _ _ _ _ c1 c2 c3 c4 c5 c6 c7 _ rfl hy num k er her (by rw [<- hBd]; exact hu) wx hr hl hx4))
 subst her
 obtain ⟨u1, u2, u3, u4⟩ := uncode_again (B.drop 4) (fun b hb => hbl b (List.mem_of_mem_drop hb)) num k hu
 rw [List.length_drop] at u3
 have hz := szb_ext (B.getD 2 0 / 16)
 have hrw := rtb_rw (B.getD 2 0 % 16)
 by_cases hl1 : 8 * s.size < 32 + 8 * k + (8 * extN (B.getD 2 0 / 16) + 8 * rwN (B.getD 2 0 % 16))
 ·exact two_ (er := 2) (by decide) (grp2.1 s hs a b c d i e sc w hL (fun x wx hr hl hx4 => grp1.2.2.2.1 x s hs (by omega) _ _ _ _ _ _ _ c1 c2 c3 c4 c5 c6 c7 _ rfl hy num k (by rw [<- hBd]; exact hu) _ _ hz.1 hrw.1 hz.2 hrw.2 (by omega) hl1 wx hr hl hx4))
 by_cases hl2 : s.size < 4 + k + extN (B.getD 2 0 / 16) + rwN (B.getD 2 0 % 16) + 1
 ·exact two_ (er := 2) (by decide) (grp2.1 s hs a b c d i e sc w hL (fun x wx hr hl hx4 => grp1.2.2.2.2.1 x s hs (by omega) _ _ _ _ _ _ _ c1 c2 c3 c4 c5 c6 c7 _ rfl hy num k (by rw [<- hBd]; exact hu) _ _ hz.1 hrw.1 hz.2 hrw.2 (by omega) hl2 wx hr hl hx4))
 have hsum8 := byte_at8 s B hBd.symm (4 + k + extN (B.getD 2 0 / 16) + rwN (B.getD 2 0 % 16)) (by omega)
 by_cases hc : B.getD (4 + k + extN (B.getD 2 0 / 16) + rwN (B.getD 2 0 % 16)) 0 = crc8N (B.take (4 + k + extN (B.getD 2 0 / 16) + rwN (B.getD 2 0 % 16)))
 case neg =>
  exact two_ (er := 2) (by decide) (grp2.1 s hs a b c d i e sc w hL (fun x wx hr hl hx4 => grp1.2.2.2.2.2.1 x s hs (by omega) _ _ _ _ _ _ _ c1 c2 c3 c4 c5 c6 c7 _ rfl hy num k (by rw [<- hBd]; exact hu) _ _ hz.1 hrw.1 hz.2 hrw.2 (by omega) (by rw [hsum8, <- hBd]; exact hc) wx hr hl hx4))
 have kh := kh_ok s hs B hBd.symm num k hm hu (by omega) hc
 have hrng := hdB_rng s B hBd.symm num k
 have hsize := hdB_size s B hBd.symm num k (by omega)
 by_cases g1 : 4608 < sizS (hdB s B num k).sc (hdB s B num k).sz
 ·exact two_ (er := 3) (by decide) (grp2.2.1 s hs a b c d i e sc w hL (hdB s B num k) _ kh 3 (by decide) (fun wx hl => grp0.1 (hdB s B num k) a b c d i e sc hrng g1 wx hl))
 have g1' : sizS (hdB s B num k).sc (hdB s B num k).sz <= 4608 := by omega
 by_cases g2 : (if (hdB s B num k).cc < 8 then (hdB s B num k).cc + 1 else 2) = i.ch
 case neg => exact two_ (er := 2) (by decide) (grp2.2.1 s hs a b c d i e sc w hL (hdB s B num k) _ kh 2 (by decide) (fun wx hl => grp0.2.1 (hdB s B num k) a b c d i e sc hrng g1' g2 wx hl))
 by_cases g3 : ratS (hdB s B num k).rc (hdB s B num k).rt i.rate = i.rate
 case neg => exact two_ (er := 2) (by decide) (grp2.2.1 s hs a b c d i e sc w hL (hdB s B num k) _ kh 2 (by decide) (fun wx hl => grp0.2.2.1 (hdB s B num k) a b c d i e sc hrng g1' g2 g3 wx hl))
 by_cases g4 : widS (hdB s B num k).wc i.wd = i.wd
 case neg => exact two_ (er := 2) (by decide) (grp2.2.1 s hs a b c d i e sc w hL (hdB s B num k) _ kh 2 (by decide) (fun wx hl => grp0.2.2.2.1 (hdB s B num k) a b c d i e sc hrng g1' g2 g3 g4 wx hl))
 by_cases g5 : mayF i /\ (1 <= (sizS (hdB s B num k).sc (hdB s B num k).sz) /\ (sizS (hdB s B num k).sc (hdB s B num k).sz) <= 4608) /\ (0 <= (hdB s B num k).num /\ (hdB s B num k).num <= (if (hdB s B num k).v then 68719476735 else 2147483647)) /\ (0 <= (if (hdB s B num k).cc < 8 then 0 else (hdB s B num k).cc - 7) /\ (if (hdB s B num k).cc < 8 then 0 else (hdB s B num k).cc - 7) <= 3 /\ ((if (hdB s B num k).cc < 8 then 0 else (hdB s B num k).cc - 7) = 0 ∨ i.ch = 2))
 case neg => exact two_ (er := 2) (by decide) (grp2.2.1 s hs a b c d i e sc w hL (hdB s B num k) _ kh 2 (by decide) (fun wx hl => grp0.2.2.2.2.1 (hdB s B num k) a b c d i e sc hrng g1' g2 g3 g4 g5 wx hl))
 have hf0 := hdB_fm s B hBd.symm num k hm (by omega) []
 have KF : Hid (∀ wx, Lay wx -> G1 44 #[.agg (hdC (hdB s B num k)), infV a b c d i e sc] wx (.tuple #[fmV (hdFm B num k []) none 0, .int .i64 0])) := fun wx hl => by
  have g := grp0.2.2.2.2.2 (hdB s B num k) a b c d i e sc hrng g1' g2 g3 g4 g5 wx hl
  rw [hf0] at g
  exact g
 obtain ⟨hi, hsz, hnum, hmo⟩ := g5
 rw [hsize] at hsz
 have b2 := getD_byte B hbl 2
 have b3 := getD_byte B hbl 3
 have hb1 := hm.2.2.1
 have hfit : hdFit i (sizR B (4 + k) (B.getD 2 0 / 16)) (ratR B (4 + k + extN (B.getD 2 0 / 16)) (B.getD 2 0 % 16)) (B.getD 2 0 / 16) (B.getD 2 0 % 16) (B.getD 3 0 / 16) (B.getD 3 0 % 16 / 2) := by
  refine ⟨fun h0 => ?_, by omega, fun h15 => ?_, ?_, ?_, ?_, ?_⟩
  ·rw [h0] at hsz
   have e : sizR B (4 + k) 0 = 0 := by unfold sizR; rw [if_neg (by decide), if_neg (by decide)]; decide
   rw [e] at hsz; omega
  ·rw [hdB_rate s B hBd.symm num k i.rate (by omega) (by omega), h15] at g3
   have e : ratR B (4 + k + extN (B.getD 2 0 / 16)) 15 = 0 := by unfold ratR; rw [if_neg (by decide), if_neg (by decide), if_neg (by decide)]; decide
   rw [e] at g3
   have := hi.2.2; omega
  ·by_cases h0 : B.getD 2 0 % 16 = 0
   ·exact .inl h0
   ·rw [hdB_rate s B hBd.symm num k i.rate (by omega) h0] at g3
    exact .inr g3
  ·have h1 := hmo.2.1
   have h2 : (if ((B.getD 3 0 / 16 : Nat) : Int) < 8 then 0 else ((B.getD 3 0 / 16 : Nat) : Int) - 7) <= 3 := h1
   split at h2 <;> omega
  ·have h2 : (if ((B.getD 3 0 / 16 : Nat) : Int) < 8 then ((B.getD 3 0 / 16 : Nat) : Int) + 1 else 2) = i.ch := g2
   rw [<- h2]
   by_cases cc : 8 <= B.getD 3 0 / 16
   ·rw [if_pos cc, if_neg (by omega)]
   ·rw [if_neg cc, if_pos (by omega)]
  ·have h2 : widS ((B.getD 3 0 % 16 / 2 : Nat) : Int) i.wd = i.wd := g4
   rw [wid_of (by omega)] at h2
   by_cases h0 : B.getD 3 0 % 16 / 2 = 0
   ·exact .inl h0
   ·rw [if_neg h0] at h2
    have w37 := wid_37
    have hw4 := hi.2.1
    refine .inr ⟨fun h => ?_, fun h => ?_, h2⟩
    ·rw [h] at h2; have e : widN ((3 : Nat) : Int) = 0 := w37.1; omega
    ·rw [h] at h2; have e : widN ((7 : Nat) : Int) = 0 := w37.2.1; omega
 have hnum2 : B.getD 1 0 = 249 ∨ num <= 2147483647 := by
  rcases hb1 with e | e
  ·right
   have h2 : ((num : Nat) : Int) <= (if (((B.getD 1 0 % 2 : Nat) : Int) == 1) = true then 68719476735 else 2147483647) := hnum.2
   rw [e, if_neg (by decide)] at h2
   omega
  ·exact .inl e
 have hz0 : (hdFm B num k []).size = ((sizR B (4 + k) (B.getD 2 0 / 16) : Nat) : Int) := rfl
 have hm0 : (hdFm B num k []).mo = moN (B.getD 3 0 / 16) := rfl
 have hmo2 : 0 <= (hdFm B num k []).mo /\ (hdFm B num k []).mo <= 3 /\ ((hdFm B num k []).mo = 0 ∨ i.ch = 2) := by
  have e : (if (hdB s B num k).cc < 8 then 0 else (hdB s B num k).cc - 7) = (hdFm B num k []).mo := congrArg Fm.mo hf0
  rw [<- e]; exact hmo
 generalize hhn : 4 + k + extN (B.getD 2 0 / 16) + rwN (B.getD 2 0 % 16) + 1 = hn at *
 cases hsub : subsP s (8 * hn) i (hdFm B num k []).mo (hdFm B num k []).size i.ch.toNat with
 | none => exact two_ (er := 2) (by decide) (grp2.2.2.1 s hs a b c d i e sc w hL hi.2.1 hi.1 (hdB s B num k) (8 * hn) (by omega) kh (hdFm B num k []) rfl (by rw [hz0]; exact hsz) hmo2 KF none hsub rfl)
 | some r =>
  obtain ⟨L, S, a1⟩ := r
  obtain ⟨s1, s2, s3, s4, s5⟩ := subs_again (by rw [hz0]; omega) hi.2.1 hsub
  have ha1 : a1 <= 8 * s.size := by
   have h6 := congrArg List.length s4
   rw [List.length_append, ahead_length, ahead_length] at h6
   omega
  by_cases hwn : ∀ l ∈ plnL (hdFm B num k []).mo L, ∀ x ∈ l, sigE x i.wd = 0
  case neg => exact two_ (er := 2) (by decide) (grp2.2.2.2.1 s hs a b c d i e sc w hL hi.2.1 hi.1 (hdB s B num k) (8 * hn) (by omega) kh (hdFm B num k []) rfl (by rw [hz0]; exact hsz) hmo2 KF L S a1 hsub hwn)
  have endd := fun (K : _) => two_ (er := 2) (by decide) (grp2.2.2.2.2.1 s hs a b c d i e sc w hL hi.2.1 hi.1 (hdB s B num k) (8 * hn) (by omega) kh (hdFm B num k []) rfl (by rw [hz0]; exact hsz) hmo2 KF L S a1 hsub hwn K)
  by_cases hp : bitsAt s a1 (padOf a1) = 0
  case neg => exact endd (fun x wx hr hl hx4 => re_pad x s hs a1 _ rfl ha1 wx hr hl hx4 hp)
  by_cases he : 8 * s.size < 8 * ((a1 + 7) / 8) + 16
  ·exact endd (fun x wx hr hl hx4 => re_end x s hs a1 _ rfl ha1 wx hr hl hx4 hp he)
  by_cases hc16 : bitsAt s (8 * ((a1 + 7) / 8)) 16 = crc16N ((bytesOf s).take ((a1 + 7) / 8))
  case neg => exact endd (fun x wx hr hl hx4 => re_no x s hs a1 _ rfl ha1 wx hr hl hx4 hp (by omega) hc16)
  exfalso
  rw [byte_at16 s B hBd.symm _ (by omega), <- hBd] at hc16
  have hlt := crc16_lt (B.take ((a1 + 7) / 8))
  have q0 := getD_byte B hbl ((a1 + 7) / 8 + 1)
  obtain ⟨k1, k2⟩ := fr_again s B hBd.symm i hi num k hm hu hnum2 (by omega) hc hfit hn hhn.symm L S a1 hsub hwn ((pad_zero s a1 ha1).1 hp) (by omega) (by
   rw [take2_at B _ (by omega)]
   unfold be2
   rw [show B.getD ((a1 + 7) / 8) 0 = crc16N (B.take ((a1 + 7) / 8)) / 256 by omega, show B.getD ((a1 + 7) / 8 + 1) 0 = crc16N (B.take ((a1 + 7) / 8)) % 256 by omega])
  exact hno _ _ (B.drop ((a1 + 7) / 8 + 2)) k1 (by rw [<- k2, List.take_append_drop])
theorem hedC_room (f : Fm) (i : Inf) : 8 * (hedC f i).length <= 1000 := by
 unfold hedC hedL
 have h0 := (clen_range f.num.toNat).2
 have h1 := sizL_len f
 have h2 := ratL_len f i
 have h3 : (fourL f i).length = 4 := rfl
 simp only [List.length_append, codeL_length, List.length_cons, List.length_nil]
 omega
theorem subsB_ok (f : Fm) (i : Inf) (P : List (List Int)) (h : okF f i P) : Bits01 (subsB f i P f.S.length) /\ (subsB f i P f.S.length).length <= 800000000000 := by
 have hall := chn_all f i P h.1 h.2.1
 rw [subsB_ch]
 refine ⟨chB_01 _ _ _ _ _, ?_⟩
 have h1 := chB_room i f.mo f.S (chnL f.mo P) f.S.length (by omega) (fun j hj => ⟨hall.2.2.2.2 h j (by omega), hall.2.2.1 j (by omega)⟩)
 have h2 : 90000000000 * f.S.length <= 90000000000 * 8 := Nat.mul_le_mul_left _ (by omega)
 omega
theorem bd_ok (f : Fm) (so : OA) (sk : Nat) (a b c d : Int) (i : Inf) (e : Int) (s : ByteArray) (hr : I64 i.rate) (P : List (List Int)) (po : OA) (pk : Nat) (w : World) (hL : Lay w) (hf : FmAt w f so sk) (hP : RowsAt w po P) (h5 : okF f i P) : Calls Tryz.prog 8 #[fmV f so sk, infV a b c d i e s, .slice po P.length pk] w fun en w' => en = .returned (.tuple #[.string (textOf (frL f i P)), .int .i64 0]) /\ Lo w w' := by
 have h := h5.1
 have h2 := h5.2.1.1
 have h3 : ∀ l ∈ P, (l.length : Int) = f.size := fun l hl => (h5.2.1.2 l hl).1
 have h4 : ∀ l ∈ P, ∀ x ∈ l, sigE x i.wd = 0 := fun l hl => (h5.2.1.2 l hl).2
 have hpl := hP.len
 have hwd := h.1.1.2.1
 have hp4 := hL.size4
 have K1 : Hid (∀ wx, Hid (FX w f so sk a b c d i e s wx) -> Calls Tryz.prog 10 #[fmV f so sk, infV a b c d i e s] wx fun en w' => en = .returned (.int .i64 0) /\ Hid (FX w f so sk a b c d i e s w')) := fun wx hx => (f_check f so sk a b c d i e s hr 0 (fun _ => rfl) (fun hq => absurd (h) hq) wx (hf.below hx.out.below) (hL.below hx.out.below)).mono fun en w' hh => ⟨hh.1, hx.out.next hh.2⟩
 have K2 : Hid (∀ wx, Hid (FX w f so sk a b c d i e s wx) -> Calls Tryz.prog 17 #[.slice po P.length pk, .int .i64 f.size] wx fun en w' => en = .returned (.bool true) /\ Hid (FX w f so sk a b c d i e s w')) := fun wx hx => ((f_long P po pk f.size true (tt_iff (h3)) wx (hP.below hx.out.below))).mono fun en w' hh => ⟨hh.1, by rw [hh.2]; exact hx⟩
 have K3 : Hid (∀ wx, Hid (FX w f so sk a b c d i e s wx) -> Calls Tryz.prog 18 #[.slice po P.length pk, .int .i64 i.wd] wx fun en w' => en = .returned (.bool true) /\ Hid (FX w f so sk a b c d i e s w')) := fun wx hx => ((f_withinW P po pk i.wd hwd true (tt_iff (h4)) wx (hP.below hx.out.below))).mono fun en w' hh => ⟨hh.1, by rw [hh.2]; exact hx⟩
 have hne : ((P.length : Int) != i.ch) = false := by rw [bne_eq_false_iff_eq]; exact h2
 have hall := chn_all f i P h ⟨h2, fun l hl => ⟨h3 l hl, h4 l hl⟩⟩
 have KH : Hid (∀ p wx, w.heap.size + 2 <= p -> BX w f so sk a b c d i e s p none [] wx -> Calls Tryz.prog 20 #[.pointer (some ⟨p, 0, none⟩), fmV f so sk, infV a b c d i e s] wx fun en w' => en = .returned (.tuple #[]) /\ ∃ ao', BX w f so sk a b c d i e s p ao' (sbits (hedC f i)) w') := fun p wx hp hx => (f_whead f so sk a b c d i e s h.1 p (by omega) wx hx.wr (hL.below hx.below)).mono fun en w' q => by
  obtain ⟨q1, ao', q2, q3, q4⟩ := q
  exact ⟨q1, ao', hx.put q2 q3 q4⟩
 have KCOD : Hid (∀ p ao B wx, BX w f so sk a b c d i e s p ao B wx -> Calls Tryz.prog 22 #[.int .i64 f.mo, .slice po P.length pk] wx fun en w' => ∃ ro rk, en = .returned (.slice ro (chnL f.mo P).length rk) /\ RowsP (foot p ao) w' ro (chnL f.mo P) /\ Lo wx w') := fun p ao B wx hx => by
  by_cases g0 : f.mo = 0
  ·have e : chnL f.mo P = P := by unfold chnL; rw [if_pos g0]
   rw [e, g0]
   exact (f_coded_0 P po pk wx).mono fun en w' q => ⟨po, pk, q.1, by rw [q.2]; exact hP.old hx.below (foot p ao) (fun k hk => by have := hx.foot k hk; omega), by rw [q.2]; exact Below.refl _ _⟩
  ·have hmo := h.1.2.2.2.1
   have hch2 : i.ch = 2 := by rcases hmo.2.2 with g | g; exact absurd g g0; exact g
   have hP2 : P.length = 2 := by omega
   have e0 := h3 _ (getD_mem' P 0 (by omega))
   have e1 := h3 _ (getD_mem' P 1 (by omega))
   have hsz := h.1.2.1
   have hl2 : (chnL f.mo P).length = 2 := by unfold chnL; rw [if_neg g0]; rfl
   rw [hl2]
   exact grp4.1 f.mo (by omega) P hP2 (by omega) (by omega) i.wd (by omega) h4 po pk wx (hP.below hx.below) (foot p ao) (fun k hk => hx.lt k hk)
 have KWS : Hid (∀ p ao wx ro rk, BX w f so sk a b c d i e s p ao (sbits (hedC f i)) wx -> RowsP (foot p ao) wx ro (chnL f.mo P) -> Calls Tryz.prog 21 #[.pointer (some ⟨p, 0, none⟩), fmV f so sk, infV a b c d i e s, .slice ro (chnL f.mo P).length rk] wx fun en w' => en = .returned (.int .i64 0) /\ ∃ ao', BX w f so sk a b c d i e s p ao' (sbits (hedC f i) ++ chB i f.mo f.S (chnL f.mo P) (chnL f.mo P).length) w') := fun p ao wx ro rk hx hrw => (f_wsubs f so sk a b c d i e s hwd (chnL f.mo P) hall.1 hall.2.1 hall.2.2.1 w hf.S p ao (sbits (hedC f i)) (fun k hk => by have := hx.foot k hk; omega) (sbits_01 _) (by rw [sbits_length]; exact Nat.le_trans (hedC_room f i) (by decide)) ro rk wx hx.below hx.wr hrw 0 (fun _ => rfl) (fun hh => absurd (hall.2.2.2.2 h5) hh)).mono fun en w' q => by
  obtain ⟨q1, q2, ao', q3, q4⟩ := q
  exact ⟨q1, ao', hx.put (q4 (hall.2.2.2.2 h5)) q2 q3⟩
 have hn := hall.1
 have HFR : Hid (sbits (hedC f i) ++ chB i f.mo f.S (chnL f.mo P) (chnL f.mo P).length = sbits (hedC f i) ++ subsB f i P f.S.length) := by show _ = _; rw [subsB_ch, hn]
 rw [HFR.out] at KWS
 have hbits := subsB_ok f i P h5
 have hcl := hedC_lt f i h.1
 have hroom := hedC_room f i
 have HPK : Hid (pack (sbits (hedC f i) ++ subsB f i P f.S.length) = hedC f i ++ pack (subsB f i P f.S.length)) := pack_sbits_app _ _ hcl hbits.1
 have HLTT : Hid (∀ b ∈ hedC f i ++ pack (subsB f i P f.S.length), b < 256) := fun b hb => by
  rcases List.mem_append.1 hb with hb | hb
  ·exact hcl b hb
  ·exact pack_lt _ hbits.1 b hb
 have HFL : Hid (frL f i P = (hedC f i ++ pack (subsB f i P f.S.length)) ++ be2 (crc16N (hedC f i ++ pack (subsB f i P f.S.length)))) := rfl
 have HBB : Hid (Bits01 (sbits (hedC f i) ++ subsB f i P f.S.length) /\ (sbits (hedC f i) ++ subsB f i P f.S.length).length <= 900000000000) := ⟨(sbits_01 _).append hbits.1, by rw [List.length_append, sbits_length]; have := hbits.2; omega⟩
 clear hn hbits hcl hroom HFR
 clear h h2 h3 h4 h5 hall hwd
 have HL := kQ hL
 clear hL hf hP
 generalize chnL f.mo P = L at *
 generalize sbits (hedC f i) ++ subsB f i P f.S.length = BB at *
 generalize hedC f i ++ pack (subsB f i P f.S.length) = TT at *
 generalize sbits (hedC f i) = HH at *
 have HA : Hid (FX w f so sk a b c d i e s ((w.alloc (.cells (fmC f so sk) 24)).alloc (.cells (infC a b c d i e s) 26))) := FX.new w f so sk a b c d i e s
 go_enter Tryz.func8, Tryz.ntmps8
 go_upto_region 1 with fail
 generalize World.alloc _ _ = wa at *
 obtain ⟨f0, f1, f2, f3, f4, f5, f6, f7, i0, i1, i2, i3, i4, i5, i6, i7, i8⟩ := HA.out.cells
 go_wp2_with fail
 refine (K1.out _ HA).mono ?_
 rintro en w1 ⟨rfl, HB1⟩
 clear HA f0 f1 f2 f3 f4 f5 f6 f7 i0 i1 i2 i3 i4 i5 i6 i7 i8
 obtain ⟨f0, f1, f2, f3, f4, f5, f6, f7, i0, i1, i2, i3, i4, i5, i6, i7, i8⟩ := HB1.out.cells
 go_wp2_with fail
 refine (K2.out _ HB1).mono ?_
 rintro en w2 ⟨rfl, HB2⟩
 clear HB1 f0 f1 f2 f3 f4 f5 f6 f7 i0 i1 i2 i3 i4 i5 i6 i7 i8
 obtain ⟨f0, f1, f2, f3, f4, f5, f6, f7, i0, i1, i2, i3, i4, i5, i6, i7, i8⟩ := HB2.out.cells
 go_wp2_with fail
 refine (K3.out _ HB2).mono ?_
 rintro en w3 ⟨rfl, HB3⟩
 clear HB2 f0 f1 f2 f3 f4 f5 f6 f7 i0 i1 i2 i3 i4 i5 i6 i7 i8
 obtain ⟨f0, f1, f2, f3, f4, f5, f6, f7, i0, i1, i2, i3, i4, i5, i6, i7, i8⟩ := HB3.out.cells
 go_wp2_with fail
 have kn := new_spec w3
 refine kn.mono ?_
 rintro en w4 ⟨rfl, hw4, hq4⟩
 have HX4 : Hid (BX w f so sk a b c d i e s w3.heap.size none [] w4) := by
  have hb : Lo w3 w4 := by rw [hq4]; exact aQ
  have g := HB3.out.next hb
  exact ⟨g.fb, g.ib, g.below, hw4, by have := lt_of_block HB3.out.ib; omega, fun k hk => by cases hk⟩
 have hp2 : w.heap.size + 2 <= w3.heap.size := by have := lt_of_block HB3.out.ib; omega
 clear kn hw4 hq4 HB3
 clear f0 f1 f2 f3 f4 f5 f6 f7 i0 i1 i2 i3 i4 i5 i6 i7 i8
 generalize w3.heap.size = p at *
 obtain ⟨f0, f1, f2, f3, f4, f5, f6, f7, i0, i1, i2, i3, i4, i5, i6, i7, i8⟩ := HX4.out.cells
 go_wp2_with fail
 refine (KH.out p _ hp2 HX4.out).mono ?_
 rintro en w5 ⟨rfl, ao5, hx5⟩
 have HX5 := kQ hx5
 have HD : Hid (BX w f so sk a b c d i e s p ao5 HH w5.drew) := hx5.low dQ
 clear hx5 KH HX4
 clear f0 f1 f2 f3 f4 f5 f6 f7 i0 i1 i2 i3 i4 i5 i6 i7 i8
 go_wp2_with fail
 refine wp_region_held_drew (S := fun wx => FX w f so sk a b c d i e s wx) (by kernel_rfl) ⟨HD.out.fb, HD.out.ib, HD.out.below⟩ (fun hS => ?_)
 refine vQ 0 (.pointer (some ⟨p, 0, none⟩)) hS ?_
 simp only [SL]
 refine uQ 1 (fmV f so sk) rfl hS (Or.inl ⟨by rfl, fun w hSw => by obtain ⟨f0, f1, f2, f3, f4, f5, f6, f7, i0, i1, i2, i3, i4, i5, i6, i7, i8⟩ := hSw.cells; go_simp⟩) ?_
 simp only [SL]
 refine uQ 2 (infV a b c d i e s) rfl hS (Or.inl ⟨by rfl, fun w hSw => by obtain ⟨f0, f1, f2, f3, f4, f5, f6, f7, i0, i1, i2, i3, i4, i5, i6, i7, i8⟩ := hSw.cells; go_simp⟩) ?_
 simp only [SL]
 refine vQ 3 (.pointer (some ⟨w.heap.size, 6, none⟩)) hS ?_
 simp only [SL]
 refine uQ 4 (.int .i64 f.mo) rfl hS (Or.inl ⟨by rfl, fun w hSw => by obtain ⟨f0, f1, f2, f3, f4, f5, f6, f7, i0, i1, i2, i3, i4, i5, i6, i7, i8⟩ := hSw.cells; go_simp⟩) ?_
 simp only [SL]
 refine vQ 5 (.slice po P.length pk) hS ?_
 simp only [SL]
 refine wpAnyH_ready (rs := [6]) (by kernel_rfl) (by simp) ?_
 refine AllReadyH.cons rfl (fun K hK => ?_) AllReadyH.nil
 go_simp
 refine (KCOD.out p ao5 HH _ HD.out).mono ?_
 rintro en w6 ⟨ro, rk, rfl, hr6, hb6⟩
 have HX6 := kQ (HD.out.low hb6)
 have HR6 := kQ hr6
 clear hr6 hb6 KCOD
 refine hK.out _ _ ⟨HX6.out.fb, HX6.out.ib, HX6.out.below⟩ (fun hS6 => ?_)
 clear hK K
 try simp only [SL]
 refine wpAnyH_ready (rs := [7]) (by kernel_rfl) (by simp) ?_
 refine AllReadyH.cons rfl (fun K hK => ?_) AllReadyH.nil
 go_simp
 refine (KWS.out p ao5 _ ro rk HX6.out HR6.out).mono ?_
 rintro en w7 ⟨rfl, ao7, hx7⟩
 have HX7 := kQ hx7
 clear hx7 KWS HR6 HX6 HX5 HD
 refine hK.out _ _ ⟨HX7.out.fb, HX7.out.ib, HX7.out.below⟩ (fun hS7 => ?_)
 clear hK K
 try simp only [SL]
 refine vQ 8 (.int .i64 0) hS7 ?_
 simp only [SL]
 refine wpAnyH_done (by kernel_rfl) ?_ _
 clear hS hS6 hS7
 have kal := align_spec p w7 ao7 BB (by have := HBB.out.2; omega) HX7.out.wr
 rw [align_bits BB HBB.out.1, HPK.out] at kal
 go_wp2_with fail
 refine kal.mono ?_
 rintro en w8 ⟨rfl, hw8, hs8⟩
 have HX8 : Hid (BX w f so sk a b c d i e s p ao7 (sbits TT) w8) := HX7.out.put hw8 hs8 (Moved.refl _ _)
 clear kal hw8 hs8 HX7
 have htl : (sbits TT).length <= 900000000100 := by
  have h1 := congrArg List.length HPK.out
  rw [pack_length] at h1
  have := HBB.out.2
  rw [sbits_length]; omega
 have kb := bytes_spec p w8 ao7 (sbits TT) (sbits_01 _) (by omega) HX8.out.wr
 rw [pack_sbits TT HLTT.out] at kb
 have kcr := S3.crc16_spec (textOf TT) (by rw [textOf_size]; rw [sbits_length] at htl; omega) w8 (HL.out.below HX8.out.below).u
 have hc16 : S3.c16 (textOf TT) = crc16N TT := by unfold S3.c16 crc16N; rw [bytesOf_textOf _ HLTT.out]
 rw [hc16] at kcr
 have hclt := crc16_lt TT
 have HEND : Hid (sbits TT ++ putB ((crc16N TT : Nat) : Int) 16 = sbits (frL f i P)) := by
  show _ = _
  rw [put_16 _ hclt, <- sbits_append, HFL.out]; rfl
 have HFB : Hid (∀ b ∈ frL f i P, b < 256) := fun b hb => by
  rw [HFL.out] at hb
  rcases List.mem_append.1 hb with hb | hb
  ·exact HLTT.out b hb
  ·exact be2_lt _ hclt b hb
 have hfrl : (sbits (frL f i P)).length <= 900000000200 := by
  rw [HFL.out, sbits_append, List.length_append, sbits_length (be2 _), be2_len]; omega
 clear hc16 HFL HPK HBB
 generalize crc16N TT = cv at *
 generalize textOf TT = tx at *
 go_wp2_with fail
 refine kb.mono ?_
 rintro en wq ⟨rfl, hwq⟩
 have hwq2 := hwq.symm
 clear hwq kb
 subst hwq2
 go_wp2_with fail
 refine kcr.mono ?_
 rintro en w9 ⟨rfl, hb9⟩
 have HX9 := kQ (HX8.out.low hb9)
 clear kcr hb9 HX8
 have kp := wput_all (B := sbits TT) (w := w9) (ao := ao7) p (cv : Int) 16 (by omega) (by omega) (sbits_01 _) (by omega) HX9.out.wr
 go_wp2_with fail
 refine kp.mono ?_
 rintro en w10 ⟨rfl, ao10, hw10, hs10, hm10⟩
 rw [HEND.out] at hw10
 have HX10 := kQ (HX9.out.put hw10 hs10 hm10)
 clear kp hw10 hs10 hm10 HX9 HEND
 have kb := bytes_spec p w10 ao10 (sbits (frL f i P)) (sbits_01 _) (by omega) HX10.out.wr
 rw [pack_sbits _ HFB.out] at kb
 go_wp2_with fail
 refine kb.mono ?_
 rintro en w11 ⟨rfl, hw11⟩
 have hw12 := hw11.symm
 clear hw11 kb
 subst hw12
 go_wp2_with fail
 go_ret2
 exact ⟨rfl, HX10.out.below⟩
theorem build_ok (f : Fm) (so : OA) (sk : Nat) (a b c d : Int) (i : Inf) (e : Int) (sc : ByteArray) (hr : I64 i.rate) (P : List (List Int)) (po : OA) (pk : Nat) (w : World) (hL : Lay w) (hf : FmAt w f so sk) (hP : RowsAt w po P) (hok : okF f i P) : Calls Tryz.prog 8 #[fmV f so sk, infV a b c d i e sc, .slice po P.length pk] w fun en w' => en = .returned (.tuple #[.string (textOf (frL f i P)), .int .i64 0]) /\ Lo w w' :=
 bd_ok f so sk a b c d i e sc hr P po pk w hL hf hP hok
theorem frL_lt (f : Fm) (i : Inf) (P : List (List Int)) (h : okF f i P) : ∀ b ∈ frL f i P, b < 256 := fun b hb => by
 unfold frL outL at hb
 rcases List.mem_append.1 hb with hb | hb
 ·rcases List.mem_append.1 hb with hb | hb
  ·exact hedC_lt f i h.1.1 b hb
  ·exact pack_lt _ (subsB_ok f i P h).1 b hb
 ·exact be2_lt _ (crc16_lt _) b hb
theorem frL_room (f : Fm) (i : Inf) (P : List (List Int)) (h : okF f i P) : (frL f i P).length <= 200000000000 := by
 unfold frL
 rw [outL_len, List.length_append, pack_length]
 have h1 := (subsB_ok f i P h).2
 have h2 := hedC_room f i
 omega
theorem fr_spoilt (f g : Fm) (i : Inf) (P Q : List (List Int)) (h : ∀ x ∈ frL f i P, x < 256) (k c : Nat) (hk : k < (frL f i P).length) (hc : c < 256) (hne : c ≠ (frL f i P).getD k 0) : (frL f i P).set k c ≠ frL g i Q := fun e =>
 out_spoilt _ _ (fun x hx => h x (by unfold frL outL; exact List.mem_append.2 (.inl hx))) k c hk hc hne e
theorem info_Info : (Tryz.prog.info? 26).map (·.size) = some 9 := by kernel_rfl
theorem info_spec (w : World) : Calls Tryz.prog 41 #[] w fun en w' => en = .returned (infV 16 4608 0 0 ⟨8000, 1, 8⟩ 0 ⟨#[]⟩) /\ Lo w w' := by
 go_enter Tryz.func41, Tryz.ntmps41
 go_wp2_with fail
 refine bodyPost_ret (v := infV 16 4608 0 0 ⟨8000, 1, 8⟩ 0 ⟨#[]⟩) ?_ rfl ⟨rfl, aQ⟩
 rw [S3.results_cell rfl]
 have hld := run_loadVar_row (P := Tryz.prog) (w.alloc (.cells (infC 16 4608 0 0 ⟨8000, 1, 8⟩ 0 ⟨#[]⟩) 26)) w.heap.size 26 26 (infC 16 4608 0 0 ⟨8000, 1, 8⟩ 0 ⟨#[]⟩) (0, 0) _ (heap_alloc_new _ _) Tryz.underlying26 rfl info_Info
 simp [asAddr, Result.andThen, hld]
abbrev exF : Fm := ⟨false, 0, 16, 6, 4, 1, 0, [Sb0]⟩
abbrev exI : Inf := ⟨8000, 1, 8⟩
abbrev exP : List (List Int) := [List.replicate 16 0]
theorem ex_ok : okF exF exI exP := by
 refine ⟨⟨⟨by decide, by decide, by decide, by decide, ⟨by decide, .inr (.inl ⟨rfl, by decide⟩)⟩, .inr (.inl ⟨by decide, by decide⟩), .inr ⟨by decide, by decide, by decide⟩⟩, rfl, fun c hc => ?_⟩, ⟨rfl, fun l hl => ?_⟩, fun c hc => ?_⟩
 ·have e : c = 0 := by have : c < 1 := hc; omega
  subst e
  exact ⟨⟨by decide, by decide⟩, ⟨by decide, by decide⟩, ⟨by decide, by decide⟩, .inl ⟨.inl rfl, ⟨rfl, rfl, rfl⟩, rfl, rfl⟩⟩
 ·rw [List.mem_singleton] at hl
  subst hl
  exact ⟨by decide, fun x hx => by rw [(List.mem_replicate.1 hx).2]; decide⟩
 ·have e : c = 0 := by have : c < 1 := hc; omega
  subst e
  refine ⟨?_, by decide, ?_, ?_⟩
  ·intro x hx
   have hx2 : x ∈ List.replicate 16 (0 : Int) := hx
   rw [(List.mem_replicate.1 hx2).2]; decide
  ·intro _ x hx
   have hx2 : x ∈ List.replicate 16 (0 : Int) := hx
   rw [(List.mem_replicate.1 hx2).2]; rfl
  ·intro h; rcases h with h | h <;> cases h
theorem ex_bytes : (frL exF exI exP).length = 11 /\ (frL exF exI exP).take 6 = [255, 248, 100, 2, 0, 15] := by decide +kernel
end Go.Proofs.YtfpfabmbipmipaaGreatDoor
