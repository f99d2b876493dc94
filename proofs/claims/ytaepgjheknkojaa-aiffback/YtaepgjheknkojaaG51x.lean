/- Own text: what is built is taken apart as it was (aiff), plain. plain files (aiff), and the values of awake. -/
import Derived.Test.YtaepgjheknkojaaG50x
import Derived.Test.YtaepgjheknkojaaG27x
import Derived.Test.YtaepgjheknkojaaG48x
import Derived.Test.YtaepgjheknkojaaG11x
namespace Go.Proofs.Ytaepgjheknkojaa
open Go.RowKit
set_option linter.unusedSimpArgs false
set_option linter.unusedVariables false

theorem form_size {f : ByteArray} (h : formB f = true) : f.size = 4 := by
  unfold formB at h
  rcases Bool.or_eq_true_iff.1 h with q | q
  · rw [eq_of_list _ _ q]
    rfl
  · rw [eq_of_list _ _ q]
    rfl
theorem lay_stand (L : List Chk) (h : layE L = 0) : standB L = true := by
  unfold layE at h
  by_cases q : L.length ≤ 1024 ∧ layAll L = true
  · unfold standB
    rw [decide_eq_true q.1, q.2]
    rfl
  · rw [if_neg q] at h
    cases h
/-- A text with an AIFF's head. -/
theorem head_text (f X : ByteArray) (hf : f.size = 4) (hX : X.size ≤ 67108852) :
    (headT7 f (12 + (X.size : Int)) ++ X).size = 12 + X.size ∧ (headT7 f (12 + (X.size : Int)) ++ X).extract 0 4 = formT ∧ beI (headT7 f (12 + (X.size : Int)) ++ X) 4 8 = ((headT7 f (12 + (X.size : Int)) ++ X).size : Int) - 8 ∧ (headT7 f (12 + (X.size : Int)) ++ X).extract 8 12 = f ∧ (headT7 f (12 + (X.size : Int)) ++ X).extract 12 (headT7 f (12 + (X.size : Int)) ++ X).size = X := by
  have hb := beT_four (12 + (X.size : Int) - 8) (by omega) (by omega)
  have hz : (headT7 f (12 + (X.size : Int))).size = 12 := by
    unfold headT7
    rw [ByteArray.size_append, ByteArray.size_append, hb, hf]
    rfl
  have hfz : formT.size = 4 := rfl
  have hs : (headT7 f (12 + (X.size : Int)) ++ X).size = 12 + X.size := by rw [ByteArray.size_append, hz]
  have z1 : (formT ++ beT (12 + (X.size : Int) - 8) 4).size = 8 := by rw [ByteArray.size_append, hb, hfz]
  refine ⟨hs, ?_, ?_, ?_, ?_⟩
  · rw [ext_left _ _ _ _ (by omega)]
    unfold headT7
    rw [ext_left _ _ _ _ (by omega), ext_left _ _ _ _ (by omega), ext_all _ _ hfz]
  · rw [hs]
    unfold beI
    rw [ext_left _ _ _ _ (by omega)]
    unfold headT7
    rw [ext_left _ _ _ _ (by omega), ext_right _ _ _ _ (by omega), hfz, show (8 - 4 : Nat) = 4 from rfl, show (4 - 4 : Nat) = 0 from rfl, ext_all _ 4 hb, sz_be4 _ (by omega) (by omega)]
    omega
  · rw [ext_left _ _ _ _ (by omega)]
    unfold headT7
    rw [ext_right _ _ _ _ (by omega), z1]
    exact ext_all _ _ hf
  · rw [hs, ext_right _ _ _ _ (by omega), hz, show 12 + X.size - 12 = X.size from by omega]
    exact ext_all _ _ rfl
set_option maxHeartbeats 1600000 in
/-- What is built is taken apart as it was. -/
theorem hold7 (p : Pcm) (f : ByteArray) (l : List Chk) (hf : fitsN 2 p = 0) (hok : ok7 p f l = true) :
    b7E p f l = 0 ∧ (b7T p f l).size ≤ 67108864 ∧ p7E (b7T p f l) = 0 ∧ p7P (b7T p f l) = p ∧ opF (b7T p f l) = f ∧ p7L (b7T p f l) = l := by
  have hE : b7E p f l = 0 := by
    unfold b7E
    rw [if_pos hf, hok]
    rfl
  unfold ok7 at hok
  obtain ⟨o1, o⟩ := Bool.and_eq_true_iff.1 hok
  obtain ⟨o2, o⟩ := Bool.and_eq_true_iff.1 o
  obtain ⟨o3, o4⟩ := Bool.and_eq_true_iff.1 o
  have o1 := eq_of_beq o1
  clear hok o
  obtain ⟨k1, k2, k3, k4, k5⟩ := lk_good o1
  obtain ⟨kf, _, _⟩ := lkB_parts k1
  have hT : b7T p f l = headT7 f (12 + ((layT (bl7 p f l) true).size : Int)) ++ layT (bl7 p f l) true := by
    unfold b7T
    rw [if_pos hE]
  have hwant := want_size p (lkX f l) hf o2
  obtain ⟨i1, i2, i3, i4⟩ := isOf_parts o2
  have hbl : bl7 p f l = filL l (lkI f l) (smp7 p (lkX f l)) := rfl
  have hc := (fits_parts7 p hf).1
  obtain ⟨u1, u2⟩ := unpack_pack p (!(lkX f l).lit) false hc
  rw [← (smp_pack p (lkX f l) hf).1] at u1 u2
  rw [hT]
  clear hT
  generalize hX : lkX f l = X at *
  generalize hI : lkI f l = I at *
  generalize smp7 p X = d at *
  generalize bl7 p f l = L at *
  unfold laidB at o4
  obtain ⟨l1, l2⟩ := Bool.and_eq_true_iff.1 o4
  obtain ⟨l2, l3⟩ := Bool.and_eq_true_iff.1 l2
  have l2 := eq_of_beq l2
  have l3 : ¬ (67108864 < 12 + ((layT L true).size : Int)) := by simpa using l3
  have hst := lay_stand L l2
  have hbs : ∀ c ∈ L, c.body.size < 4294967296 := fun c hc => by
    have h1 := bod_mem L c hc
    have h2 : bodL L ≤ 67108864 := of_decide_eq_true l1
    omega
  have hch := lay_chunks L hst hbs
  obtain ⟨t1, t2, t3, t4, t5⟩ := head_text f (layT L true) (form_size kf) (by omega)
  generalize hS : headT7 f (12 + ((layT L true).size : Int)) ++ layT L true = S at *
  have hbeg : begB7 S = true := by
    unfold begB7
    rw [t2, t4, decide_eq_false (by omega), beq_self_eq_true]
    exact kf
  have hoE : opE S = 0 := by
    unfold opE
    rw [hbeg, if_pos rfl, if_neg (by omega), t3, t5, hch]
    simp
  have hoL : opL S = L := by
    unfold opL
    rw [t5, hch]
  have hoF : opF S = f := t4
  have key : lkE f L = 0 ∧ lkX f L = X ∧ lkI f L = I ∧ smpS L I = d ∧ cut7L L I = l ∧ cut7E L X I = 0 := by
    rcases sn_cases l with q | ⟨i, c, q1, q2, q3⟩
    · rw [q] at k4
      rw [k4] at hbl o3 ⊢
      have hL2 : L = l := hbl
      have hd0 : d = ⟨#[]⟩ := by
        have o3 : d.toList.isEmpty = true := o3
        apply ByteArray.ext
        rw [ByteArray.toList_eq, List.isEmpty_iff] at o3
        apply Array.toList_inj.1
        exact o3
      rw [hL2]
      refine ⟨o1, hX, by rw [hI, k4], by rw [hd0]; rfl, rfl, ?_⟩
      have e : smpS l (-1) = ⟨#[]⟩ := rfl
      unfold cut7E
      rw [e, ← hwant, hd0]
      rfl
    · rw [q2] at k4
      have hin : ¬ ((i : Int) = -1) := by omega
      have hi1 : ((i : Int) != -1) = true := by
        rw [bne_iff_ne]
        omega
      have hi2 : ((i : Int) == -1) = false := by
        rw [beq_eq_false_iff_ne]
        omega
      have hat := atC_get _ _ _ q1
      have hlt := (List.getElem?_eq_some_iff.1 q1).1
      unfold holdB at o3
      rw [k4, hi2, hat] at o3
      simp only [Bool.false_eq_true, if_false] at o3
      obtain ⟨s1, s2⟩ := Bool.and_eq_true_iff.1 o3
      obtain ⟨g1, g2, g3, n, g4, g5, g6⟩ := st_parts s1
      have s2 := eq_of_beq s2
      have hn : c.body.size = n := by omega
      have hL2 : L = l.set i ⟨c.id, c.body ++ d, c.pad⟩ := by
        rw [hbl, k4]
        unfold filL
        rw [if_neg hin, hat, Int.toNat_natCast]
        rfl
      have hset : (l.set i ⟨c.id, c.body ++ d, c.pad⟩)[i]? = some ⟨c.id, c.body ++ d, c.pad⟩ := by
        rw [List.getElem?_set, if_pos rfl, if_pos hlt]
      have hat2 := atC_get _ _ _ hset
      obtain ⟨r1, r2, r3⟩ := lk_set f l i c ⟨c.id, c.body ++ d, c.pad⟩ q1 q3 rfl
      have zn : stN (c.body ++ d) = (n : Int) := by
        rw [← g4]
        unfold stN
        rw [beI_left _ _ _ _ (by omega)]
      have zz : (c.body ++ d).size = n + d.size := by rw [ByteArray.size_append, hn]
      have zb : stB (c.body ++ d) = true := by
        unfold stB
        rw [zz, zn, decide_eq_true (by omega), decide_eq_true (by omega)]
        rfl
      have x1 : (c.body ++ d).extract n (n + d.size) = d := by
        rw [ext_right _ _ _ _ (by omega), hn, show n - n = 0 from by omega, show n + d.size - n = d.size from by omega]
        exact ext_all _ _ rfl
      have x2 : (c.body ++ d).extract 0 n = c.body := by
        rw [ext_left _ _ _ _ (by omega)]
        exact ext_all _ _ hn
      have hsmp : smpS L I = d := by
        rw [hL2, k4]
        unfold smpS
        rw [if_neg hin, hat2]
        simp only
        rw [zn, Int.toNat_natCast, zz, x1]
      refine ⟨by rw [hL2]; exact r1.trans o1, by rw [hL2]; exact r2.trans hX, by rw [hL2]; exact r3.trans hI, hsmp, ?_, ?_⟩
      · rw [hL2, k4]
        unfold cut7L
        rw [if_neg hin, hat2, Int.toNat_natCast]
        refine set_set l i c _ _ q1 ?_
        unfold cut7C
        simp only
        rw [zn, Int.toNat_natCast, x2]
      · unfold cut7E
        rw [hsmp, k4, hL2, hat2, hi1]
        simp only
        rw [zb, hwant]
        simp
  obtain ⟨e1, e2, e3, e4, e5, e6⟩ := key
  have hoX : opX S = X := by
    unfold opX
    rw [hoF, hoL, e2]
  have hoI : opI S = I := by
    unfold opI
    rw [hoF, hoL, e3]
  have hoS : opS S = d := by
    unfold opS
    rw [hoL, hoI, e4]
  have hpE : p7E S = 0 := by
    unfold p7E
    rw [hoE, hoF, hoL, hoX, hoI, hoS, e1, e6, uE_unpE, i1, i2, i3, u1]
    rfl
  have hpP : p7P S = p := by
    unfold p7P
    rw [hoS, hoX, uP_unpP, i1, i2, i3, u2]
  exact ⟨hE, by omega, hpE, hpP, hoF, by unfold p7L; rw [hoL, hoI, e5]⟩

end Go.Proofs.Ytaepgjheknkojaa

namespace Go.Proofs.Ytaepgjheknkojaa
open Go.RowKit
set_option linter.unusedSimpArgs false
set_option linter.unusedVariables false

theorem ssnd_ne_comm : (ssndT.toList == commT.toList) = false := by rw [comm_list, ssnd_list]; decide
def z8T : ByteArray := ⟨#[0, 0, 0, 0, 0, 0, 0, 0]⟩
theorem z8_st : stB z8T = true ∧ stI z8T = 8 := by decide +kernel
theorem comm_id : idB commT = true := by decide +kernel
theorem ssnd_id : idB ssndT = true := by decide +kernel
theorem form_aiff : formB aiffT = true ∧ kB aiffT = false := by
  unfold formB kB
  rw [beq_self_eq_true]
  exact ⟨rfl, rfl⟩
/-- A plain COMM's parts. -/
theorem com_parts (p : Pcm) (hf : fitsN 2 p = 0) : (comT p).size = 18 ∧ (comT p).extract 0 2 = beT p.ch 2 ∧ (comT p).extract 2 6 = beT (lenP p : Int) 4 ∧ (comT p).extract 6 8 = beT p.wd 2 ∧ (comT p).extract 8 18 = ratT p.rate ∧ (ratT p.rate).size = 10 := by
  obtain ⟨_, r1, r2, c1, c2, hw, hl⟩ := fits_parts7 p hf
  have s1 := beT_two p.ch (by omega) (by omega)
  have s2 := beT_four (lenP p : Int) (by omega) (by omega)
  have s3 := beT_two p.wd (by omega) (by omega)
  have s4 : (ratT p.rate).size = 10 := by
    obtain ⟨m, hm⟩ : ∃ m : Nat, p.rate = (m : Int) := ⟨p.rate.toNat, by omega⟩
    rw [hm, ratT_nat m (by omega) (by omega), textOf_size, rateL_length]
  unfold comT
  generalize beT p.ch 2 = t1 at *
  generalize beT (lenP p : Int) 4 = t2 at *
  generalize beT p.wd 2 = t3 at *
  generalize ratT p.rate = t4 at *
  have z2 : (t1 ++ t2).size = 6 := by rw [ByteArray.size_append]; omega
  have z3 : (t1 ++ t2 ++ t3).size = 8 := by rw [ByteArray.size_append]; omega
  refine ⟨by rw [ByteArray.size_append]; omega, ?_, ?_, ?_, ?_, s4⟩
  · rw [ext_left _ _ _ _ (by omega), ext_left _ _ _ _ (by omega), ext_left _ _ _ _ (by omega), ext_all _ _ s1]
  · rw [ext_left _ _ _ _ (by omega), ext_left _ _ _ _ (by omega), ext_right _ _ _ _ (by omega), s1]
    exact ext_all _ _ s2
  · rw [ext_left _ _ _ _ (by omega), ext_right _ _ _ _ (by omega), z2]
    exact ext_all _ _ s3
  · rw [ext_right _ _ _ _ (by omega), z3]
    exact ext_all _ _ s4
theorem rate_back (r : Int) (h1 : 1 ≤ r) (h2 : r ≤ 655350) : ((frV (bytesOf (ratT r))).1 : Int) = r ∧ ((frV (bytesOf (ratT r))).2 : Int) = 0 := by
  obtain ⟨m, rfl⟩ : ∃ m : Nat, r = (m : Int) := ⟨r.toNat, by omega⟩
  rw [ratT_nat m (by omega) (by omega), bytesOf_textOf _ (rateL_lt m), frV_rate m (by omega) (by omega)]
  exact ⟨rfl, rfl⟩
/-- A plain COMM says what it was made of. -/
theorem com_plain (p : Pcm) (hf : fitsN 2 p = 0) : comE (comT p) false = 0 ∧ comR (comT p) false = sndP7 p := by
  obtain ⟨_, r1, r2, c1, c2, hw, hl⟩ := fits_parts7 p hf
  obtain ⟨a0, a1, a2, a3, a4, _⟩ := com_parts p hf
  obtain ⟨b1, b2⟩ := rate_back p.rate r1 r2
  have e1 : beI (comT p) 0 2 = p.ch := by
    unfold beI
    rw [a1, sz_be2 _ (by omega) (by omega)]
  have e2 : beI (comT p) 2 6 = (lenP p : Int) := by
    unfold beI
    rw [a2, sz_be4 _ (by omega) (by omega)]
  have e3 : beI (comT p) 6 8 = p.wd := by
    unfold beI
    rw [a3, sz_be2 _ (by omega) (by omega)]
  have hwb : wdB p.wd = true := wdB_of hw
  have hw1 : wholeB (comT p) false = true := by
    unfold wholeB
    rw [if_neg (by decide), a0]
    rfl
  have hk : ((kindT (comT p) false).toList != noneT.toList) = false := by
    show (noneT.toList != noneT.toList) = false
    simp
  have hE : comE (comT p) false = 0 := by
    rw [comE_eq, hw1, hk, againE_com, a4, e1, e2, e3, hwb, b2]
    have n1 : (p.ch == 0) = false := by
      rw [beq_eq_false_iff_ne]
      omega
    rw [n1, decide_eq_false (by omega : ¬ 8 < p.ch), decide_eq_false (by omega : ¬ (1048576 < (lenP p : Int)))]
    rfl
  refine ⟨hE, ?_⟩
  unfold comR
  rw [if_pos hE]
  unfold comX sndP7
  rw [a4, e1, e2, e3, b1]
  rfl
theorem pl7_eq (p : Pcm) (hf : fitsN 2 p = 0) : pl7L p = [⟨commT, comT p, 0⟩, ⟨ssndT, z8T, 0⟩] ∧ pl7F p = aiffT := ⟨if_pos hf, if_pos hf⟩
theorem find_plain (a b : ByteArray) : findN [⟨commT, a, 0⟩, ⟨ssndT, b, 0⟩] commT = (0, 1) ∧ findN [⟨commT, a, 0⟩, ⟨ssndT, b, 0⟩] ssndT = (1, 1) := by
  unfold findN
  refine ⟨?_, ?_⟩
  · rw [findR, findR, findR]
    simp only
    rw [beq_self_eq_true, ssnd_ne_comm]
    rfl
  · rw [findR, findR, findR]
    simp only
    rw [beq_self_eq_true, comm_ne_ssnd]
    rfl
theorem lk_plain (p : Pcm) (hf : fitsN 2 p = 0) (b : ByteArray) : lkE aiffT [⟨commT, comT p, 0⟩, ⟨ssndT, b, 0⟩] = 0 ∧ lkX aiffT [⟨commT, comT p, 0⟩, ⟨ssndT, b, 0⟩] = sndP7 p ∧ lkI aiffT [⟨commT, comT p, 0⟩, ⟨ssndT, b, 0⟩] = 1 := by
  obtain ⟨f1, f2⟩ := find_plain (comT p) b
  obtain ⟨c1, c2⟩ := com_plain p hf
  obtain ⟨g1, g2⟩ := form_aiff
  have hB : lkB aiffT [⟨commT, comT p, 0⟩, ⟨ssndT, b, 0⟩] = true := by
    unfold lkB
    rw [f1, f2, g1]
    rfl
  have hm : cmB [⟨commT, comT p, 0⟩, ⟨ssndT, b, 0⟩] = comT p := by
    unfold cmB
    rw [f1]
    rfl
  unfold lkE lkX lkI snI
  rw [hB, hm, g2, f2]
  simp only [if_true]
  exact ⟨c1, c2, trivial⟩
/-- The chunks of a plain file, with its samples. -/
def pl7C (p : Pcm) : List Chk := [⟨commT, comT p, 0⟩, ⟨ssndT, z8T ++ smp7 p (sndP7 p), 0⟩]
theorem bl_plain (p : Pcm) (hf : fitsN 2 p = 0) : bl7 p aiffT (pl7L p) = pl7C p := by
  obtain ⟨k1, k2, k3⟩ := lk_plain p hf z8T
  unfold bl7
  rw [(pl7_eq p hf).1, k2, k3]
  rfl
theorem stand_plain7 (p : Pcm) : standB (pl7C p) = true := by
  unfold standB pl7C
  show (decide (2 ≤ 1024) && (layOk _ false && layOk _ true)) = true
  rw [layOk_eq, layOk_eq, pad_zero _ rfl, pad_zero _ rfl]
  show (decide (2 ≤ 1024) && ((idB commT && true) && (idB ssndT && true))) = true
  rw [comm_id, ssnd_id]
  rfl
theorem smp_small (p : Pcm) (hf : fitsN 2 p = 0) (x : Com) : (smp7 p x).size ≤ 33554432 := pack_size p hf _ _
theorem z8_size : z8T.size = 8 := rfl
theorem size_plain7 (p : Pcm) (hf : fitsN 2 p = 0) : sizeL (pl7C p) = 42 + (smp7 p (sndP7 p)).size + (if (smp7 p (sndP7 p)).size % 2 = 1 then 1 else 0) := by
  have h1 := (com_parts p hf).1
  have e1 : hasPadB ⟨commT, comT p, 0⟩ = false := by
    unfold hasPadB oddC
    simp only
    rw [h1]
    rfl
  have z : (z8T ++ smp7 p (sndP7 p)).size = 8 + (smp7 p (sndP7 p)).size := by rw [ByteArray.size_append, z8_size]
  have e2 : hasPadB ⟨ssndT, z8T ++ smp7 p (sndP7 p), 0⟩ = decide ((smp7 p (sndP7 p)).size % 2 = 1) := by
    unfold hasPadB oddC
    simp only
    rw [z]
    have : (8 + (smp7 p (sndP7 p)).size) % 2 = (smp7 p (sndP7 p)).size % 2 := by omega
    rw [this]
    simp
  unfold pl7C sizeL
  simp only [List.map_cons, List.map_nil, List.sum_cons, List.sum_nil]
  unfold sizeC
  rw [e1, e2]
  simp only [h1, z]
  by_cases q : (smp7 p (sndP7 p)).size % 2 = 1
  · rw [decide_eq_true q, if_pos q]
    simp
    omega
  · rw [decide_eq_false q, if_neg q]
    simp
    omega
theorem body_plain7 (p : Pcm) (hf : fitsN 2 p = 0) : ∀ c ∈ pl7C p, c.body.size < 4294967296 := by
  have h1 := (com_parts p hf).1
  have h2 := smp_small p hf (sndP7 p)
  intro c hc
  have hc2 : c = ⟨commT, comT p, 0⟩ ∨ c = ⟨ssndT, z8T ++ smp7 p (sndP7 p), 0⟩ := by
    unfold pl7C at hc
    simpa using hc
  rcases hc2 with rfl | rfl
  · show (comT p).size < _
    omega
  · show (z8T ++ smp7 p (sndP7 p)).size < _
    rw [ByteArray.size_append, z8_size]
    omega
/-- Samples that fit go into a plain file. -/
theorem plain_ok7 (p : Pcm) (hf : fitsN 2 p = 0) : ok7 p aiffT (pl7L p) = true := by
  obtain ⟨k1, k2, k3⟩ := lk_plain p hf z8T
  have hbl := bl_plain p hf
  have hs := smp_small p hf (sndP7 p)
  have hz := size_plain7 p hf
  have hls := lay_size (pl7C p) (stand_plain7 p) (body_plain7 p hf)
  have hb := bodL_size (pl7C p)
  have hzz : sizeL (pl7C p) ≤ 33554432 + 43 := by
    rw [hz]
    split <;> omega
  have hl : laidB (pl7C p) = true := by
    unfold laidB roomB
    rw [stand_lay _ (stand_plain7 p), hls, decide_eq_true (by omega), decide_eq_false (by omega)]
    rfl
  have hof : isOfB (sndP7 p) p = true := isOf_mk rfl rfl rfl rfl
  have hho : holdB [⟨commT, comT p, 0⟩, ⟨ssndT, z8T, 0⟩] 1 (smp7 p (sndP7 p)) = true := by
    unfold holdB
    have e : atC [⟨commT, comT p, 0⟩, ⟨ssndT, z8T, 0⟩] 1 = ⟨ssndT, z8T, 0⟩ := rfl
    rw [e]
    simp only
    rw [z8_st.1, z8_st.2, z8_size]
    rfl
  unfold ok7
  rw [hbl, hl, (pl7_eq p hf).1, k1, k2, k3, hof, hho]
  rfl
theorem fits16_7 : fitsN 2 (two 16) = 0 := by
  unfold fitsN
  rw [if_pos (show formatB 2 = true from rfl), if_pos two16]
  rfl
/-- The text that awake builds. -/
def s58 : ByteArray := b7T (two 16) aiffT (pl7L (two 16))
theorem s58_parts : s58.size = 58 ∧ s58.extract 0 4 = formT ∧ p7E s58 = 0 ∧ p7P s58 = two 16 ∧ opF s58 = aiffT ∧ p7L s58 = pl7L (two 16) ∧ b7E (two 16) aiffT (pl7L (two 16)) = 0 := by
  obtain ⟨h1, _, h3, h4, h5, h6⟩ := hold7 (two 16) aiffT (pl7L (two 16)) fits16_7 (plain_ok7 _ fits16_7)
  have hT : s58 = headT7 aiffT (12 + ((layT (pl7C (two 16)) true).size : Int)) ++ layT (pl7C (two 16)) true := by
    unfold s58 b7T
    rw [if_pos h1, bl_plain _ fits16_7]
  have hls := lay_size (pl7C (two 16)) (stand_plain7 _) (body_plain7 _ fits16_7)
  have hsm : (smp7 (two 16) (sndP7 (two 16))).size = 4 := by
    rw [(smp_pack (two 16) (sndP7 (two 16)) fits16_7).2]
    rfl
  have hz := size_plain7 (two 16) fits16_7
  rw [hsm] at hz
  obtain ⟨t1, t2, _⟩ := head_text aiffT (layT (pl7C (two 16)) true) rfl (by rw [hls, hz]; decide)
  rw [← hT] at t1 t2
  rw [hls, hz] at t1
  exact ⟨t1, t2, h3, h4, h5, h6, h1⟩
def helloT : ByteArray := ⟨#[104, 101, 108, 108, 111]⟩
theorem hello_E : p7E ⟨#[104, 101, 108, 108, 111]⟩ = 3 := by
  have h : opE ⟨#[104, 101, 108, 108, 111]⟩ = 3 := by
    unfold opE begB7
    rw [decide_eq_true (show (((⟨#[104, 101, 108, 108, 111]⟩ : ByteArray).size : Nat) : Int) < 12 from by decide)]
    rfl
  unfold p7E
  rw [if_neg (by rw [h]; decide), h]
theorem fair_read7 (s : ByteArray) (h : p7E s = 0) : FairT (p7L s) ∧ (p7L s).length ≤ 1024 ∧ (opF s).size ≤ 4 := by
  unfold p7E at h
  by_cases h1 : opE s = 0
  case neg =>
    rw [if_neg h1] at h
    exact absurd h h1
  rw [if_pos h1] at h
  obtain ⟨b1, b2⟩ := op_body s h1
  obtain ⟨o1, o2, o3, _, _⟩ := op_parts s h1
  obtain ⟨a1, _, _⟩ := chunks_lay _ _ o1
  have hid := lay_id _ (Bool.and_eq_true_iff.1 a1).2
  refine ⟨?_, ?_, ?_⟩
  · intro c hc
    unfold p7L cut7L at hc
    split at hc
    · exact ⟨by have := hid c hc; omega, by have := b1 c hc; omega⟩
    · rename_i hn
      rcases List.mem_or_eq_of_mem_set hc with q | q
      · exact ⟨by have := hid c q; omega, by have := b1 c q; omega⟩
      · by_cases hi : (opI s).toNat < (opL s).length
        · have hm : (opL s).getD (opI s).toNat noC ∈ opL s := by
            rw [List.getD_eq_getElem?_getD, List.getElem?_eq_getElem hi]
            exact List.getElem_mem hi
          have i1 := hid _ hm
          have i2 := b1 _ hm
          subst q
          unfold cut7C atC
          refine ⟨?_, ?_⟩
          · show ((opL s).getD (opI s).toNat noC).id.size ≤ _
            omega
          · show (ByteArray.extract _ 0 _).size ≤ _
            rw [ByteArray.size_extract]
            omega
        · rw [List.set_eq_of_length_le (by omega)] at hc
          exact ⟨by have := hid c hc; omega, by have := b1 c hc; omega⟩
  · unfold p7L cut7L
    split
    · exact b2
    · rw [List.length_set]
      exact b2
  · unfold opF
    rw [ByteArray.size_extract]
    omega
theorem fair_plain7 (p : Pcm) (hf : fitsN 2 p = 0) : FairT (pl7L p) ∧ (pl7L p).length = 2 := by
  have h1 := (com_parts p hf).1
  rw [(pl7_eq p hf).1]
  refine ⟨fun c hc => ?_, rfl⟩
  have hc2 : c = ⟨commT, comT p, 0⟩ ∨ c = ⟨ssndT, z8T, 0⟩ := by simpa using hc
  rcases hc2 with rfl | rfl
  · exact ⟨by show commT.size ≤ _; decide, by show (comT p).size ≤ _; omega⟩
  · exact ⟨by show ssndT.size ≤ _; decide, by show z8T.size ≤ _; decide⟩
theorem sameA_refl (f : ByteArray) (l : List Chk) : sameW f l f l = true := by
  unfold sameW
  rw [sameC_refl, beq_self_eq_true]
  rfl

end Go.Proofs.Ytaepgjheknkojaa
