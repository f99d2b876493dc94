/- Own text: the walk of the document's Unpack. the program answers Unpack as the document does. a file that is taken apart is built as it was (aiff), plain. what is built is taken apart as it was (aiff), plain. -/
import Derived.Test.YtaepgjheknkojaaGreatP5unpack4
import Derived.Test.YtaepgjheknkojaaGreatG40x
import Derived.Test.YtaepgjheknkojaaGreatG25x
import Derived.Laws.IdiomArrays
import Derived.Test.YtaepgjheknkojaaGreatQ7build
import Derived.Test.YtaepgjheknkojaaGreatG24x
namespace Go.Proofs.YtaepgjheknkojaaGreat
open Go.RowKit
set_option linter.unusedSimpArgs false
set_option linter.unusedVariables false

/-- The document's Unpack. -/
theorem runpack_spec (s : ByteArray) (rate ch wd : Int) (big uns : Bool) (w : World) (hs : s.size ≤ 1000000000000000000) :
    Calls Tryz.prog 21 #[.string s, .int .i64 rate, .int .i64 ch, .int .i64 wd, .agg #[.bool big, .bool uns]] w fun e w' => Gives w (unpP s rate ch wd big uns) (unpE s rate ch wd big uns) e w' := by
  cases hh : uheadB rate ch wd
  · exact runpack_head s rate ch wd big uns w hh
  · by_cases hm : s.size % (nby wd * ch.toNat) = 0
    · by_cases h5 : 1048576 < s.size / (nby wd * ch.toNat)
      · exact runpack_five s rate ch wd big uns w hs hh hm h5
      · obtain ⟨C, rfl⟩ : ∃ C : Nat, ch = (C : Int) := ⟨ch.toNat, by have := uhead_parts hh; omega⟩
        rw [Int.toNat_natCast] at hm h5
        cases big <;> cases uns
        · exact runpack_false_false s rate wd C w hs hh hm (by omega)
        · exact runpack_true_false s rate wd C w hs hh hm (by omega)
        · exact runpack_false_true s rate wd C w hs hh hm (by omega)
        · exact runpack_true_true s rate wd C w hs hh hm (by omega)
    · exact runpack_two s rate ch wd big uns w hs hh hm

end Go.Proofs.YtaepgjheknkojaaGreat

namespace Go.Proofs.YtaepgjheknkojaaGreat
open Go.RowKit
set_option linter.unusedSimpArgs false
set_option linter.unusedVariables false

theorem numM_numI (s : ByteArray) (wd : Int) (big uns : Bool) (i : Nat) : numM s wd big uns i = numI s wd big uns i := by
  show decM wd uns (mOf s (nby wd) big i) = decN wd uns (mOf s (nby wd) big i)
  have e : (wd - 1).toNat = wd.toNat - 1 := by omega
  unfold decM decN
  rw [e]
theorem uE_unpE (s : ByteArray) (rate ch wd : Int) (big uns : Bool) : uE s rate ch wd big uns = unpE s rate ch wd big uns := by
  unfold uE unpE
  simp only [numM_numI]
  rfl
theorem uP_unpP (s : ByteArray) (rate ch wd : Int) (big uns : Bool) : uP s rate ch wd big uns = unpP s rate ch wd big uns := by
  unfold uP unpP
  rw [uE_unpE]
  by_cases h : unpE s rate ch wd big uns = 0
  · rw [if_pos h, if_pos h]
    have hh : uheadB rate ch wd = true := by
      cases q : uheadB rate ch wd with
      | true => rfl
      | false => unfold unpE at h; rw [q, if_neg (by decide)] at h; exact absurd h (by decide)
    have hm : s.size % (nby wd * ch.toNat) = 0 := by
      by_cases q : s.size % (nby wd * ch.toNat) = 0
      · exact q
      · unfold unpE at h; rw [hh, if_pos rfl, if_neg q] at h; exact absurd h (by decide)
    have hp : 1 ≤ rate ∧ rate ≤ 655350 ∧ 1 ≤ ch ∧ ch ≤ 8 ∧ 4 ≤ wd ∧ wd ≤ 32 := of_decide_eq_true hh
    have hn := (nby_range wd (by omega) (by omega)).1
    have hc : 0 < ch.toNat := by omega
    have hd : s.size / (nby wd * ch.toNat) * (nby wd * ch.toNat) = s.size := Nat.div_mul_cancel (Nat.dvd_of_mod_eq_zero hm)
    generalize s.size / (nby wd * ch.toNat) = n at *
    have e3 : s.size / nby wd = n * ch.toNat := by rw [← hd, Nat.mul_comm (nby wd), ← Nat.mul_assoc]; exact Nat.mul_div_cancel _ hn
    rw [e3]
    have e4 : uL s wd big uns ch.toNat n = upL s wd big uns ch.toNat (n * ch.toNat) := by
      refine list_ext _ _ [] (by rw [upL_length]; exact matL_length _ _ _) fun k hk => ?_
      have hk2 : k < ch.toNat := by
        have := matL_length ch.toNat n fun k i => numM s wd big uns (i * ch.toNat + k)
        show k < ch.toNat
        rw [← this]
        exact hk
      rw [upL_full s wd big uns ch.toNat n hc k hk2]
      show (matL ch.toNat n fun k i => numM s wd big uns (i * ch.toNat + k)).getD k [] = _
      rw [matL_at _ _ _ k hk2]
      apply List.map_congr_left
      intro i _
      exact numM_numI s wd big uns _
    rw [e4]
  · rw [if_neg h, if_neg h]
    rfl
theorem sameB_refl (p : Pcm) : sameB p p = true := by
  unfold sameB
  simp

section
open Go.ChangeShapes Go.WideShapes Go.ChangeAt Go.RowKit Go.Deep
variable {H : Type} {enc : TypeId × Value → H} {w : World} {base base2 : Nat} {held : Bool}
end

end Go.Proofs.YtaepgjheknkojaaGreat

namespace Go.Proofs.YtaepgjheknkojaaGreat
open Go.RowKit
set_option linter.unusedSimpArgs false
set_option linter.unusedVariables false

theorem findR_ids (id : ByteArray) : ∀ (l m : List Chk) (k : Nat) (r : Int × Int), l.map Chk.id = m.map Chk.id → findR id l k r = findR id m k r
  | [], [], k, r, _ => rfl
  | [], d :: m, k, r, h => by cases h
  | c :: l, [], k, r, h => by cases h
  | c :: l, d :: m, k, r, h => by
    have h1 : c.id = d.id := by
      have := congrArg (fun x => x.head?) h
      simpa using this
    have h2 : l.map Chk.id = m.map Chk.id := by
      have := congrArg List.tail h
      simpa using this
    rw [findR, findR, h1]
    exact findR_ids id l m _ _ h2
theorem findN_ids (l m : List Chk) (h : l.map Chk.id = m.map Chk.id) (id : ByteArray) : findN l id = findN m id := findR_ids id l m 0 (-1, 0) h
theorem set_ids (l : List Chk) (i : Nat) (c d : Chk) (h : l[i]? = some c) (hd : d.id = c.id) : (l.set i d).map Chk.id = l.map Chk.id := by
  apply List.ext_getElem?
  intro j
  rw [List.getElem?_map, List.getElem?_map, List.getElem?_set]
  by_cases e : i = j
  · subst e
    rw [if_pos rfl, if_pos (List.getElem?_eq_some_iff.1 h).1, h]
    simp [hd]
  · rw [if_neg e]
theorem comm_ne_ssnd : (commT.toList == ssndT.toList) = false := by rw [comm_list, ssnd_list]; decide
/-- Another Body of SSND plays no part in what is looked at. -/
theorem lk_set (f : ByteArray) (l : List Chk) (i : Nat) (c d : Chk) (hc : l[i]? = some c) (hcs : (c.id.toList == ssndT.toList) = true) (hd : d.id = c.id) :
    lkE f (l.set i d) = lkE f l ∧ lkX f (l.set i d) = lkX f l ∧ lkI f (l.set i d) = lkI f l := by
  have hids := set_ids l i c d hc hd
  have h1 := findN_ids _ _ hids commT
  have h2 := findN_ids _ _ hids ssndT
  have hb : lkB f (l.set i d) = lkB f l := by unfold lkB; rw [h1, h2]
  cases hq : lkB f l
  · rw [hq] at hb
    unfold lkE lkX lkI
    rw [hb, hq]
    simp only [Bool.false_eq_true, if_false]
    exact ⟨trivial, trivial, trivial⟩
  · rw [hq] at hb
    obtain ⟨j, e, hj, hjn, hje, hjb⟩ := comm_at hq
    have hij : i ≠ j := fun q => by
      subst q
      rw [hc] at hj
      cases hj
      have := eq_of_beq hcs
      rw [this] at hje
      have := eq_of_beq hje
      have n := comm_ne_ssnd
      rw [← this, beq_self_eq_true] at n
      cases n
    have hm : cmB (l.set i d) = cmB l := by
      rw [hjb]
      unfold cmB
      rw [h1, hjn, atC_get (l.set i d) j e (by rw [List.getElem?_set_ne hij]; exact hj)]
    unfold lkE lkX lkI snI
    rw [hb, hq, hm, h2]
    simp only [if_true]
    exact ⟨trivial, trivial, trivial⟩
theorem sn_cases (l : List Chk) : snI l = -1 ∨ ∃ i c, l[i]? = some c ∧ snI l = ((i : Nat) : Int) ∧ (c.id.toList == ssndT.toList) = true := by
  rcases findN_cases l ssndT with ⟨q, _⟩ | ⟨i, c, q1, q2, q3, _⟩
  · exact Or.inl q
  · exact Or.inr ⟨i, c, q1, q2, q3⟩
theorem wdB_nby (wd : Int) (h : wdB wd = true) : wd = 8 * (nby wd : Int) ∧ 1 ≤ nby wd ∧ 8 ≤ wd ∧ wd ≤ 32 ∧ (wd = 8 ∨ wd = 16 ∨ wd = 24 ∨ wd = 32) := by
  have g : wd = 8 ∨ wd = 16 ∨ wd = 24 ∨ wd = 32 := by
    unfold wdB at h
    simpa using h
  rcases g with rfl | rfl | rfl | rfl <;> decide
/-- How many bytes the samples have. -/
theorem want_len (n : Nat) (ch wd smp : Int) (hc : 1 ≤ ch) (hw : wdB wd = true) : ((n * (ch.toNat * nby wd) : Nat) : Int) = smp * ch * wd / 8 ↔ (n : Int) = smp := by
  obtain ⟨e, n1, _, _, _⟩ := wdB_nby wd hw
  have hk : smp * ch * wd / 8 = smp * (ch * (nby wd : Int)) := by
    have : smp * ch * wd = smp * (ch * (nby wd : Int)) * 8 := by
      generalize (nby wd : Int) = k at *
      rw [e]
      rw [Int.mul_assoc smp ch (8 * k), Int.mul_left_comm ch 8 k, Int.mul_assoc smp (ch * k) 8, Int.mul_comm (ch * k) 8]
    rw [this, Int.mul_ediv_cancel _ (by decide)]
  have hl : ((n * (ch.toNat * nby wd) : Nat) : Int) = (n : Int) * (ch * (nby wd : Int)) := by
    rw [Int.natCast_mul, Int.natCast_mul, Int.toNat_of_nonneg (by omega)]
  rw [hk, hl]
  have hne : ch * (nby wd : Int) ≠ 0 := by
    have : 0 < ch * (nby wd : Int) := Int.mul_pos (by omega) (by omega)
    omega
  constructor
  · intro q
    exact Int.eq_of_mul_eq_mul_right hne q
  · intro q
    rw [q]
theorem beI_left (a b : ByteArray) (i j : Nat) (h : j ≤ a.size) : beI (a ++ b) i j = beI a i j := by
  unfold beI
  rw [ext_left _ _ _ _ h]
theorem ext_ext0 (a : ByteArray) (n j : Nat) (h : j ≤ n) : (a.extract 0 n).extract 0 j = a.extract 0 j := by
  rw [ByteArray.extract_extract]
  congr 1
  omega
theorem ext_join (a : ByteArray) (n : Nat) (h : n ≤ a.size) : a.extract 0 n ++ a.extract n a.size = a := by
  apply bytes_inj
  rw [bytesOf_append, bytes_ext, bytes_ext, List.drop_zero, List.take_of_length_le (i := a.size) (by rw [bytesOf_length]; exact Nat.le_refl _), List.take_append_drop]
theorem st_parts {b : ByteArray} (h : stB b = true) : 8 ≤ b.size ∧ stN b ≤ (b.size : Int) ∧ stI b = stN b ∧ ∃ n : Nat, stN b = (n : Int) ∧ 8 ≤ n ∧ n ≤ b.size := by
  obtain ⟨h1, h2⟩ := Bool.and_eq_true_iff.1 h
  have h1 := of_decide_eq_true h1
  have h2 := of_decide_eq_true h2
  have h3 := (st_range b).1
  exact ⟨h1, h2, if_pos h1, (stN b).toNat, by omega, by omega, by omega⟩
theorem smp_pack (p : Pcm) (x : Com) (hf : fitsN 2 p = 0) : smp7 p x = textOf (packL p (!x.lit) false (lenP p)) ∧ (smp7 p x).size = lenP p * (p.ch.toNat * nby p.wd) := by
  have hc := (fits_parts7 p hf).1
  have e : smp7 p x = textOf (packL p (!x.lit) false (lenP p)) := by
    unfold smp7 pakN
    rw [if_pos hc]
  exact ⟨e, by rw [e, textOf_size, packL_length]⟩
theorem wdB_of {wd : Int} (h : wd = 8 ∨ wd = 16 ∨ wd = 24 ∨ wd = 32) : wdB wd = true := by
  rcases h with rfl | rfl | rfl | rfl <;> rfl
theorem isOf_parts {x : Com} {p : Pcm} (h : isOfB x p = true) : x.rate = p.rate ∧ x.ch = p.ch ∧ x.wd = p.wd ∧ x.smp = (lenP p : Int) := by
  unfold isOfB at h
  obtain ⟨h1, h⟩ := Bool.and_eq_true_iff.1 h
  obtain ⟨h2, h⟩ := Bool.and_eq_true_iff.1 h
  obtain ⟨h3, h4⟩ := Bool.and_eq_true_iff.1 h
  exact ⟨eq_of_beq h1, eq_of_beq h2, eq_of_beq h3, eq_of_beq h4⟩
theorem isOf_mk {x : Com} {p : Pcm} (h1 : x.rate = p.rate) (h2 : x.ch = p.ch) (h3 : x.wd = p.wd) (h4 : x.smp = (lenP p : Int)) : isOfB x p = true := by
  unfold isOfB
  rw [h1, h2, h3, h4]
  simp
/-- The samples that COMM says are as many as it wants. -/
theorem want_size (p : Pcm) (x : Com) (hf : fitsN 2 p = 0) (h : isOfB x p = true) : ((smp7 p x).size : Int) = wantN x := by
  obtain ⟨_, h2, h3, h4⟩ := isOf_parts h
  obtain ⟨_, _, _, c1, _, hw, _⟩ := fits_parts7 p hf
  rw [(smp_pack p x hf).2]
  unfold wantN
  rw [h2, h3, h4]
  exact (want_len (lenP p) p.ch p.wd _ c1 (wdB_of hw)).2 rfl
theorem bodL_size (l : List Chk) : bodL l ≤ sizeL l := by
  induction l with
  | nil => exact Nat.zero_le _
  | cons c t ih =>
    have e : sizeL (c :: t) = sizeC c + sizeL t := by unfold sizeL; simp
    have e2 : bodL (c :: t) = c.body.size + bodL t := by unfold bodL; simp
    have : c.body.size ≤ sizeC c := by unfold sizeC; omega
    rw [e, e2]
    omega
theorem bod_mem (l : List Chk) (c : Chk) (h : c ∈ l) : c.body.size ≤ bodL l := by
  induction l with
  | nil => cases h
  | cons d t ih =>
    have e2 : bodL (d :: t) = d.body.size + bodL t := by unfold bodL; simp
    rw [e2]
    rcases List.mem_cons.1 h with rfl | h
    · omega
    · have := ih h
      omega
theorem set_set (l : List Chk) (i : Nat) (c d e : Chk) (h : l[i]? = some c) (he : e = c) : (l.set i d).set i e = l := by
  rw [List.set_set, he]
  apply List.ext_getElem?
  intro j
  rw [List.getElem?_set]
  by_cases q : i = j
  · subst q
    rw [if_pos rfl, if_pos (List.getElem?_eq_some_iff.1 h).1, h]
  · rw [if_neg q]
set_option maxHeartbeats 1600000 in
/-- A file that is taken apart is built as it was. -/
theorem back7 (s : ByteArray) (h : p7E s = 0) : b7E (p7P s) (opF s) (p7L s) = 0 ∧ b7T (p7P s) (opF s) (p7L s) = s := by
  unfold p7E at h
  by_cases h1 : opE s = 0
  case neg =>
    rw [if_neg h1] at h
    exact absurd h h1
  rw [if_pos h1] at h
  by_cases h2 : lkE (opF s) (opL s) = 0
  case neg =>
    rw [if_neg h2] at h
    exact absurd h h2
  rw [if_pos h2] at h
  by_cases h3 : cut7E (opL s) (opX s) (opI s) = 0
  case neg =>
    rw [if_neg h3] at h
    cases h
  rw [if_pos h3] at h
  obtain ⟨o1, o2, o3, o4, o5⟩ := op_parts s h1
  obtain ⟨k1, k2, k3, k4, k5⟩ := lk_good h2
  have hX : opX s = lkX (opF s) (opL s) := rfl
  have hI : opI s = snI (opL s) := k4
  have hS : opS s = smpS (opL s) (opI s) := rfl
  have hP : p7P s = uP (opS s) (opX s).rate (opX s).ch (opX s).wd (!(opX s).lit) false := rfl
  have hL : p7L s = cut7L (opL s) (opI s) := rfl
  have hwx : wdB (opX s).wd = true ∧ 1 ≤ (opX s).ch := by
    rw [hX, k3]
    exact ⟨(good_com _ _ k2).2.1, (good_com _ _ k2).2.2.1⟩
  -- the samples
  have hu : unpE (opS s) (opX s).rate (opX s).ch (opX s).wd (!(opX s).lit) false = 0 := by rw [← uE_unpE]; exact h
  have hfp : p7P s = unpP (opS s) (opX s).rate (opX s).ch (opX s).wd (!(opX s).lit) false := by rw [hP, uP_unpP]
  obtain ⟨hc, hpk⟩ := pack_unpack _ _ _ _ _ _ hu
  rw [← hfp] at hc hpk
  have hpw : (p7P s).rate = (opX s).rate ∧ (p7P s).ch = (opX s).ch ∧ (p7P s).wd = (opX s).wd := by
    rw [hfp]
    unfold unpP
    rw [if_pos hu]
    exact ⟨rfl, rfl, rfl⟩
  have hfit : fitsN 2 (p7P s) = 0 := by
    unfold fitsN
    rw [if_pos (show formatB 2 = true from rfl), if_pos hc, if_pos]
    show decide ((p7P s).wd % 8 = 0) = true
    rw [hpw.2.2]
    have := (wdB_nby _ hwx.1).2.2.2.2
    exact decide_eq_true (by omega)
  have hsm : smp7 (p7P s) (opX s) = opS s := by
    unfold smp7 pakN
    rw [if_pos hc]
    exact hpk
  have hss : ((opS s).size : Int) = wantN (opX s) := by
    have e : cut7E (opL s) (opX s) (opI s) = 0 := h3
    unfold cut7E at e
    cases q : opI s != -1 && !stB (atC (opL s) (opI s)).body
    · rw [q] at e
      simp only [Bool.false_eq_true, if_false] at e
      cases q2 : ((smpS (opL s) (opI s)).size : Int) != wantN (opX s)
      · rw [hS]
        simpa using q2
      · rw [q2] at e
        cases e
    · rw [q] at e
      cases e
  have hof : isOfB (opX s) (p7P s) = true := by
    refine isOf_mk hpw.1.symm hpw.2.1.symm hpw.2.2.symm ?_
    have e := (smp_pack (p7P s) (opX s) hfit).2
    rw [hsm] at e
    have e2 : ((lenP (p7P s) * ((opX s).ch.toNat * nby (opX s).wd) : Nat) : Int) = (opX s).smp * (opX s).ch * (opX s).wd / 8 := by
      rw [← hpw.2.1, ← hpw.2.2, ← e, hss, hpw.2.1, hpw.2.2]
      rfl
    exact ((want_len _ _ _ _ hwx.2 hwx.1).1 e2).symm
  obtain ⟨a1, a2, a3⟩ := chunks_lay _ _ o1
  have hz : (s.extract 12 s.size).size = s.size - 12 := ext_size _ _ _ o3 (Nat.le_refl _)
  have hlaid : laidB (opL s) = true := by
    unfold laidB roomB
    have hb := bodL_size (opL s)
    rw [stand_lay _ a1, a2, decide_eq_true (by omega), decide_eq_false (by rw [hz]; omega)]
    rfl
  have key : lkE (opF s) (p7L s) = 0 ∧ lkX (opF s) (p7L s) = opX s ∧ lkI (opF s) (p7L s) = opI s ∧ holdB (p7L s) (opI s) (opS s) = true ∧ filL (p7L s) (opI s) (opS s) = opL s := by
    rcases sn_cases (opL s) with q | ⟨i, c, q1, q2, q3⟩
    · rw [q] at hI
      rw [hI] at hL
      have hL2 : p7L s = opL s := hL
      rw [hL2, hI]
      refine ⟨h2, rfl, ?_, ?_, rfl⟩
      · rw [← hI]
        rfl
      · have : opS s = ⟨#[]⟩ := by
          rw [hS, hI]
          rfl
        rw [this]
        show (⟨#[]⟩ : ByteArray).toList.isEmpty = true
        exact isEmpty_true _ rfl
    · rw [q2] at hI
      have hin : ¬ ((i : Int) = -1) := by omega
      have hi1 : ((i : Int) != -1) = true := by
        rw [bne_iff_ne]
        omega
      have hi2 : ((i : Int) == -1) = false := by
        rw [beq_eq_false_iff_ne]
        omega
      have hat := atC_get _ _ _ q1
      have hst : stB c.body = true := by
        unfold cut7E at h3
        rw [hI, hat, hi1] at h3
        cases z : stB c.body
        · rw [z] at h3
          cases h3
        · rfl
      obtain ⟨g1, g2, g3, n, g4, g5, g6⟩ := st_parts hst
      have hnn : (stN c.body).toNat = n := by omega
      have hcc : cut7C c = ⟨c.id, c.body.extract 0 n, c.pad⟩ := by
        unfold cut7C
        rw [hnn]
      have hL2 : p7L s = (opL s).set i (cut7C c) := by
        rw [hL, hI]
        unfold cut7L
        rw [if_neg hin, hat, Int.toNat_natCast]
      have hS2 : opS s = c.body.extract n c.body.size := by
        rw [hS, hI]
        unfold smpS
        rw [if_neg hin, hat, hnn]
      have hlt := (List.getElem?_eq_some_iff.1 q1).1
      have hset : ((opL s).set i (cut7C c))[i]? = some (cut7C c) := by
        rw [List.getElem?_set]
        rw [if_pos rfl, if_pos hlt]
      obtain ⟨r1, r2, r3⟩ := lk_set (opF s) (opL s) i c (cut7C c) q1 q3 (by rw [hcc])
      rw [hL2]
      refine ⟨r1.trans h2, r2.trans hX.symm, r3.trans (by rw [k4, hI, q2]), ?_, ?_⟩
      · unfold holdB
        rw [hI, hi2, atC_get _ _ _ hset, hcc]
        simp only [Bool.false_eq_true, if_false]
        have z1 : (c.body.extract 0 n).size = n := ext_size _ _ _ (Nat.zero_le _) g6
        have z2 : stN (c.body.extract 0 n) = (n : Int) := by
          rw [← g4]
          unfold stN beI
          rw [ext_ext0 _ _ _ (by omega)]
        have z3 : stB (c.body.extract 0 n) = true := by
          unfold stB
          rw [z1, z2, decide_eq_true g5, decide_eq_true (Int.le_refl _)]
          rfl
        rw [z3, (st_parts z3).2.2.1, z2, z1]
        simp
      · unfold filL
        rw [hI, if_neg hin, atC_get _ _ _ hset, Int.toNat_natCast, hcc, hS2]
        refine set_set (opL s) i c _ _ q1 ?_
        unfold filC7
        simp only
        rw [ext_join _ _ g6]
  obtain ⟨e1, e2, e3, e4, e5⟩ := key
  have hbl : bl7 (p7P s) (opF s) (p7L s) = opL s := by
    unfold bl7
    rw [e2, e3, hsm, e5]
  have hok : ok7 (p7P s) (opF s) (p7L s) = true := by
    unfold ok7
    rw [hbl, e1, e2, e3, hof, hsm, e4, hlaid]
    rfl
  have hE : b7E (p7P s) (opF s) (p7L s) = 0 := by
    unfold b7E
    rw [if_pos hfit, hok]
    rfl
  refine ⟨hE, ?_⟩
  unfold b7T
  rw [if_pos hE, hbl, a2, hz]
  have hsz : (12 : Int) + ((s.size - 12 : Nat) : Int) = (s.size : Int) := by omega
  rw [hsz]
  have hbeg := o4
  unfold begB7 at hbeg
  have hf4 := (Bool.and_eq_true_iff.1 (Bool.and_eq_true_iff.1 hbeg).2).1
  have hhd := head_eq s o3 o2 hf4
  rw [o5] at hhd
  have hhd := eq_of_list _ _ (show ((s.extract 0 12).toList == (headT7 (s.extract 8 12) (s.size : Int)).toList) = true from hhd)
  show headT7 (s.extract 8 12) (s.size : Int) ++ s.extract 12 s.size = s
  rw [← hhd, ext_join _ _ o3]

end Go.Proofs.YtaepgjheknkojaaGreat

namespace Go.Proofs.YtaepgjheknkojaaGreat
open Go.RowKit
set_option linter.unusedSimpArgs false
set_option linter.unusedVariables false

theorem form_size {f : ByteArray} (h : formB f = true) : f.size = 4 := by
  unfold formB at h
  rcases Bool.or_eq_true_iff.1 h with q | q
  · rw [eq_of_list _ _ q]
    rfl
  · rw [eq_of_list _ _ q]
    rfl
theorem lay_stand (L : List Chk) (h : layE L = 0) : standB L = true := by
  unfold layE at h
  by_cases q : L.length ≤ 1024 ∧ layAll L = true
  · unfold standB
    rw [decide_eq_true q.1, q.2]
    rfl
  · rw [if_neg q] at h
    cases h
/-- A text with an AIFF's head. -/
theorem head_text (f X : ByteArray) (hf : f.size = 4) (hX : X.size ≤ 67108852) :
    (headT7 f (12 + (X.size : Int)) ++ X).size = 12 + X.size ∧ (headT7 f (12 + (X.size : Int)) ++ X).extract 0 4 = formT ∧ beI (headT7 f (12 + (X.size : Int)) ++ X) 4 8 = ((headT7 f (12 + (X.size : Int)) ++ X).size : Int) - 8 ∧ (headT7 f (12 + (X.size : Int)) ++ X).extract 8 12 = f ∧ (headT7 f (12 + (X.size : Int)) ++ X).extract 12 (headT7 f (12 + (X.size : Int)) ++ X).size = X := by
  have hb := beT_four (12 + (X.size : Int) - 8) (by omega) (by omega)
  have hz : (headT7 f (12 + (X.size : Int))).size = 12 := by
    unfold headT7
    rw [ByteArray.size_append, ByteArray.size_append, hb, hf]
    rfl
  have hfz : formT.size = 4 := rfl
  have hs : (headT7 f (12 + (X.size : Int)) ++ X).size = 12 + X.size := by rw [ByteArray.size_append, hz]
  have z1 : (formT ++ beT (12 + (X.size : Int) - 8) 4).size = 8 := by rw [ByteArray.size_append, hb, hfz]
  refine ⟨hs, ?_, ?_, ?_, ?_⟩
  · rw [ext_left _ _ _ _ (by omega)]
    unfold headT7
    rw [ext_left _ _ _ _ (by omega), ext_left _ _ _ _ (by omega), ext_all _ _ hfz]
  · rw [hs]
    unfold beI
    rw [ext_left _ _ _ _ (by omega)]
    unfold headT7
    rw [ext_left _ _ _ _ (by omega), ext_right _ _ _ _ (by omega), hfz, show (8 - 4 : Nat) = 4 from rfl, show (4 - 4 : Nat) = 0 from rfl, ext_all _ 4 hb, sz_be4 _ (by omega) (by omega)]
    omega
  · rw [ext_left _ _ _ _ (by omega)]
    unfold headT7
    rw [ext_right _ _ _ _ (by omega), z1]
    exact ext_all _ _ hf
  · rw [hs, ext_right _ _ _ _ (by omega), hz, show 12 + X.size - 12 = X.size from by omega]
    exact ext_all _ _ rfl
set_option maxHeartbeats 1600000 in
/-- What is built is taken apart as it was. -/
theorem hold7 (p : Pcm) (f : ByteArray) (l : List Chk) (hf : fitsN 2 p = 0) (hok : ok7 p f l = true) :
    b7E p f l = 0 ∧ (b7T p f l).size ≤ 67108864 ∧ p7E (b7T p f l) = 0 ∧ p7P (b7T p f l) = p ∧ opF (b7T p f l) = f ∧ p7L (b7T p f l) = l := by
  have hE : b7E p f l = 0 := by
    unfold b7E
    rw [if_pos hf, hok]
    rfl
  unfold ok7 at hok
  obtain ⟨o1, o⟩ := Bool.and_eq_true_iff.1 hok
  obtain ⟨o2, o⟩ := Bool.and_eq_true_iff.1 o
  obtain ⟨o3, o4⟩ := Bool.and_eq_true_iff.1 o
  have o1 := eq_of_beq o1
  clear hok o
  obtain ⟨k1, k2, k3, k4, k5⟩ := lk_good o1
  obtain ⟨kf, _, _⟩ := lkB_parts k1
  have hT : b7T p f l = headT7 f (12 + ((layT (bl7 p f l) true).size : Int)) ++ layT (bl7 p f l) true := by
    unfold b7T
    rw [if_pos hE]
  have hwant := want_size p (lkX f l) hf o2
  obtain ⟨i1, i2, i3, i4⟩ := isOf_parts o2
  have hbl : bl7 p f l = filL l (lkI f l) (smp7 p (lkX f l)) := rfl
  have hc := (fits_parts7 p hf).1
  obtain ⟨u1, u2⟩ := unpack_pack p (!(lkX f l).lit) false hc
  rw [← (smp_pack p (lkX f l) hf).1] at u1 u2
  rw [hT]
  clear hT
  generalize hX : lkX f l = X at *
  generalize hI : lkI f l = I at *
  generalize smp7 p X = d at *
  generalize bl7 p f l = L at *
  unfold laidB at o4
  obtain ⟨l1, l2⟩ := Bool.and_eq_true_iff.1 o4
  obtain ⟨l2, l3⟩ := Bool.and_eq_true_iff.1 l2
  have l2 := eq_of_beq l2
  have l3 : ¬ (67108864 < 12 + ((layT L true).size : Int)) := by simpa using l3
  have hst := lay_stand L l2
  have hbs : ∀ c ∈ L, c.body.size < 4294967296 := fun c hc => by
    have h1 := bod_mem L c hc
    have h2 : bodL L ≤ 67108864 := of_decide_eq_true l1
    omega
  have hch := lay_chunks L hst hbs
  obtain ⟨t1, t2, t3, t4, t5⟩ := head_text f (layT L true) (form_size kf) (by omega)
  generalize hS : headT7 f (12 + ((layT L true).size : Int)) ++ layT L true = S at *
  have hbeg : begB7 S = true := by
    unfold begB7
    rw [t2, t4, decide_eq_false (by omega), beq_self_eq_true]
    exact kf
  have hoE : opE S = 0 := by
    unfold opE
    rw [hbeg, if_pos rfl, if_neg (by omega), t3, t5, hch]
    simp
  have hoL : opL S = L := by
    unfold opL
    rw [t5, hch]
  have hoF : opF S = f := t4
  have key : lkE f L = 0 ∧ lkX f L = X ∧ lkI f L = I ∧ smpS L I = d ∧ cut7L L I = l ∧ cut7E L X I = 0 := by
    rcases sn_cases l with q | ⟨i, c, q1, q2, q3⟩
    · rw [q] at k4
      rw [k4] at hbl o3 ⊢
      have hL2 : L = l := hbl
      have hd0 : d = ⟨#[]⟩ := by
        have o3 : d.toList.isEmpty = true := o3
        apply ByteArray.ext
        rw [ByteArray.toList_eq, List.isEmpty_iff] at o3
        apply Array.toList_inj.1
        exact o3
      rw [hL2]
      refine ⟨o1, hX, by rw [hI, k4], by rw [hd0]; rfl, rfl, ?_⟩
      have e : smpS l (-1) = ⟨#[]⟩ := rfl
      unfold cut7E
      rw [e, ← hwant, hd0]
      rfl
    · rw [q2] at k4
      have hin : ¬ ((i : Int) = -1) := by omega
      have hi1 : ((i : Int) != -1) = true := by
        rw [bne_iff_ne]
        omega
      have hi2 : ((i : Int) == -1) = false := by
        rw [beq_eq_false_iff_ne]
        omega
      have hat := atC_get _ _ _ q1
      have hlt := (List.getElem?_eq_some_iff.1 q1).1
      unfold holdB at o3
      rw [k4, hi2, hat] at o3
      simp only [Bool.false_eq_true, if_false] at o3
      obtain ⟨s1, s2⟩ := Bool.and_eq_true_iff.1 o3
      obtain ⟨g1, g2, g3, n, g4, g5, g6⟩ := st_parts s1
      have s2 := eq_of_beq s2
      have hn : c.body.size = n := by omega
      have hL2 : L = l.set i ⟨c.id, c.body ++ d, c.pad⟩ := by
        rw [hbl, k4]
        unfold filL
        rw [if_neg hin, hat, Int.toNat_natCast]
        rfl
      have hset : (l.set i ⟨c.id, c.body ++ d, c.pad⟩)[i]? = some ⟨c.id, c.body ++ d, c.pad⟩ := by
        rw [List.getElem?_set, if_pos rfl, if_pos hlt]
      have hat2 := atC_get _ _ _ hset
      obtain ⟨r1, r2, r3⟩ := lk_set f l i c ⟨c.id, c.body ++ d, c.pad⟩ q1 q3 rfl
      have zn : stN (c.body ++ d) = (n : Int) := by
        rw [← g4]
        unfold stN
        rw [beI_left _ _ _ _ (by omega)]
      have zz : (c.body ++ d).size = n + d.size := by rw [ByteArray.size_append, hn]
      have zb : stB (c.body ++ d) = true := by
        unfold stB
        rw [zz, zn, decide_eq_true (by omega), decide_eq_true (by omega)]
        rfl
      have x1 : (c.body ++ d).extract n (n + d.size) = d := by
        rw [ext_right _ _ _ _ (by omega), hn, show n - n = 0 from by omega, show n + d.size - n = d.size from by omega]
        exact ext_all _ _ rfl
      have x2 : (c.body ++ d).extract 0 n = c.body := by
        rw [ext_left _ _ _ _ (by omega)]
        exact ext_all _ _ hn
      have hsmp : smpS L I = d := by
        rw [hL2, k4]
        unfold smpS
        rw [if_neg hin, hat2]
        simp only
        rw [zn, Int.toNat_natCast, zz, x1]
      refine ⟨by rw [hL2]; exact r1.trans o1, by rw [hL2]; exact r2.trans hX, by rw [hL2]; exact r3.trans hI, hsmp, ?_, ?_⟩
      · rw [hL2, k4]
        unfold cut7L
        rw [if_neg hin, hat2, Int.toNat_natCast]
        refine set_set l i c _ _ q1 ?_
        unfold cut7C
        simp only
        rw [zn, Int.toNat_natCast, x2]
      · unfold cut7E
        rw [hsmp, k4, hL2, hat2, hi1]
        simp only
        rw [zb, hwant]
        simp
  obtain ⟨e1, e2, e3, e4, e5, e6⟩ := key
  have hoX : opX S = X := by
    unfold opX
    rw [hoF, hoL, e2]
  have hoI : opI S = I := by
    unfold opI
    rw [hoF, hoL, e3]
  have hoS : opS S = d := by
    unfold opS
    rw [hoL, hoI, e4]
  have hpE : p7E S = 0 := by
    unfold p7E
    rw [hoE, hoF, hoL, hoX, hoI, hoS, e1, e6, uE_unpE, i1, i2, i3, u1]
    rfl
  have hpP : p7P S = p := by
    unfold p7P
    rw [hoS, hoX, uP_unpP, i1, i2, i3, u2]
  exact ⟨hE, by omega, hpE, hpP, hoF, by unfold p7L; rw [hoL, hoI, e5]⟩

end Go.Proofs.YtaepgjheknkojaaGreat
