/- Own text: plain files (aiff), and the values of awake. the walk of Parse (aiff). -/
import Derived.Test.YtaepgjheknkojaaGreatG42x
import Derived.Test.YtaepgjheknkojaaGreatG40x
import Derived.Test.YtaepgjheknkojaaGreatG11x
import Derived.Test.YtaepgjheknkojaaGreatQ7parse
import Derived.Deep.Cut
namespace Go.Proofs.YtaepgjheknkojaaGreat
open Go.RowKit
set_option linter.unusedSimpArgs false
set_option linter.unusedVariables false

theorem ssnd_ne_comm : (ssndT.toList == commT.toList) = false := by rw [comm_list, ssnd_list]; decide
def z8T : ByteArray := ⟨#[0, 0, 0, 0, 0, 0, 0, 0]⟩
theorem z8_st : stB z8T = true ∧ stI z8T = 8 := by decide +kernel
theorem comm_id : idB commT = true := by decide +kernel
theorem ssnd_id : idB ssndT = true := by decide +kernel
theorem form_aiff : formB aiffT = true ∧ kB aiffT = false := by
  unfold formB kB
  rw [beq_self_eq_true]
  exact ⟨rfl, rfl⟩
/-- A plain COMM's parts. -/
theorem com_parts (p : Pcm) (hf : fitsN 2 p = 0) : (comT p).size = 18 ∧ (comT p).extract 0 2 = beT p.ch 2 ∧ (comT p).extract 2 6 = beT (lenP p : Int) 4 ∧ (comT p).extract 6 8 = beT p.wd 2 ∧ (comT p).extract 8 18 = ratT p.rate ∧ (ratT p.rate).size = 10 := by
  obtain ⟨_, r1, r2, c1, c2, hw, hl⟩ := fits_parts7 p hf
  have s1 := beT_two p.ch (by omega) (by omega)
  have s2 := beT_four (lenP p : Int) (by omega) (by omega)
  have s3 := beT_two p.wd (by omega) (by omega)
  have s4 : (ratT p.rate).size = 10 := by
    obtain ⟨m, hm⟩ : ∃ m : Nat, p.rate = (m : Int) := ⟨p.rate.toNat, by omega⟩
    rw [hm, ratT_nat m (by omega) (by omega), textOf_size, rateL_length]
  unfold comT
  generalize beT p.ch 2 = t1 at *
  generalize beT (lenP p : Int) 4 = t2 at *
  generalize beT p.wd 2 = t3 at *
  generalize ratT p.rate = t4 at *
  have z2 : (t1 ++ t2).size = 6 := by rw [ByteArray.size_append]; omega
  have z3 : (t1 ++ t2 ++ t3).size = 8 := by rw [ByteArray.size_append]; omega
  refine ⟨by rw [ByteArray.size_append]; omega, ?_, ?_, ?_, ?_, s4⟩
  · rw [ext_left _ _ _ _ (by omega), ext_left _ _ _ _ (by omega), ext_left _ _ _ _ (by omega), ext_all _ _ s1]
  · rw [ext_left _ _ _ _ (by omega), ext_left _ _ _ _ (by omega), ext_right _ _ _ _ (by omega), s1]
    exact ext_all _ _ s2
  · rw [ext_left _ _ _ _ (by omega), ext_right _ _ _ _ (by omega), z2]
    exact ext_all _ _ s3
  · rw [ext_right _ _ _ _ (by omega), z3]
    exact ext_all _ _ s4
theorem rate_back (r : Int) (h1 : 1 ≤ r) (h2 : r ≤ 655350) : ((frV (bytesOf (ratT r))).1 : Int) = r ∧ ((frV (bytesOf (ratT r))).2 : Int) = 0 := by
  obtain ⟨m, rfl⟩ : ∃ m : Nat, r = (m : Int) := ⟨r.toNat, by omega⟩
  rw [ratT_nat m (by omega) (by omega), bytesOf_textOf _ (rateL_lt m), frV_rate m (by omega) (by omega)]
  exact ⟨rfl, rfl⟩
/-- A plain COMM says what it was made of. -/
theorem com_plain (p : Pcm) (hf : fitsN 2 p = 0) : comE (comT p) false = 0 ∧ comR (comT p) false = sndP7 p := by
  obtain ⟨_, r1, r2, c1, c2, hw, hl⟩ := fits_parts7 p hf
  obtain ⟨a0, a1, a2, a3, a4, _⟩ := com_parts p hf
  obtain ⟨b1, b2⟩ := rate_back p.rate r1 r2
  have e1 : beI (comT p) 0 2 = p.ch := by
    unfold beI
    rw [a1, sz_be2 _ (by omega) (by omega)]
  have e2 : beI (comT p) 2 6 = (lenP p : Int) := by
    unfold beI
    rw [a2, sz_be4 _ (by omega) (by omega)]
  have e3 : beI (comT p) 6 8 = p.wd := by
    unfold beI
    rw [a3, sz_be2 _ (by omega) (by omega)]
  have hwb : wdB p.wd = true := wdB_of hw
  have hw1 : wholeB (comT p) false = true := by
    unfold wholeB
    rw [if_neg (by decide), a0]
    rfl
  have hk : ((kindT (comT p) false).toList != noneT.toList) = false := by
    show (noneT.toList != noneT.toList) = false
    simp
  have hE : comE (comT p) false = 0 := by
    rw [comE_eq, hw1, hk, againE_com, a4, e1, e2, e3, hwb, b2]
    have n1 : (p.ch == 0) = false := by
      rw [beq_eq_false_iff_ne]
      omega
    rw [n1, decide_eq_false (by omega : ¬ 8 < p.ch), decide_eq_false (by omega : ¬ (1048576 < (lenP p : Int)))]
    rfl
  refine ⟨hE, ?_⟩
  unfold comR
  rw [if_pos hE]
  unfold comX sndP7
  rw [a4, e1, e2, e3, b1]
  rfl
theorem pl7_eq (p : Pcm) (hf : fitsN 2 p = 0) : pl7L p = [⟨commT, comT p, 0⟩, ⟨ssndT, z8T, 0⟩] ∧ pl7F p = aiffT := ⟨if_pos hf, if_pos hf⟩
theorem find_plain (a b : ByteArray) : findN [⟨commT, a, 0⟩, ⟨ssndT, b, 0⟩] commT = (0, 1) ∧ findN [⟨commT, a, 0⟩, ⟨ssndT, b, 0⟩] ssndT = (1, 1) := by
  unfold findN
  refine ⟨?_, ?_⟩
  · rw [findR, findR, findR]
    simp only
    rw [beq_self_eq_true, ssnd_ne_comm]
    rfl
  · rw [findR, findR, findR]
    simp only
    rw [beq_self_eq_true, comm_ne_ssnd]
    rfl
theorem lk_plain (p : Pcm) (hf : fitsN 2 p = 0) (b : ByteArray) : lkE aiffT [⟨commT, comT p, 0⟩, ⟨ssndT, b, 0⟩] = 0 ∧ lkX aiffT [⟨commT, comT p, 0⟩, ⟨ssndT, b, 0⟩] = sndP7 p ∧ lkI aiffT [⟨commT, comT p, 0⟩, ⟨ssndT, b, 0⟩] = 1 := by
  obtain ⟨f1, f2⟩ := find_plain (comT p) b
  obtain ⟨c1, c2⟩ := com_plain p hf
  obtain ⟨g1, g2⟩ := form_aiff
  have hB : lkB aiffT [⟨commT, comT p, 0⟩, ⟨ssndT, b, 0⟩] = true := by
    unfold lkB
    rw [f1, f2, g1]
    rfl
  have hm : cmB [⟨commT, comT p, 0⟩, ⟨ssndT, b, 0⟩] = comT p := by
    unfold cmB
    rw [f1]
    rfl
  unfold lkE lkX lkI snI
  rw [hB, hm, g2, f2]
  simp only [if_true]
  exact ⟨c1, c2, trivial⟩
/-- The chunks of a plain file, with its samples. -/
def pl7C (p : Pcm) : List Chk := [⟨commT, comT p, 0⟩, ⟨ssndT, z8T ++ smp7 p (sndP7 p), 0⟩]
theorem bl_plain (p : Pcm) (hf : fitsN 2 p = 0) : bl7 p aiffT (pl7L p) = pl7C p := by
  obtain ⟨k1, k2, k3⟩ := lk_plain p hf z8T
  unfold bl7
  rw [(pl7_eq p hf).1, k2, k3]
  rfl
theorem stand_plain7 (p : Pcm) : standB (pl7C p) = true := by
  unfold standB pl7C
  show (decide (2 ≤ 1024) && (layOk _ false && layOk _ true)) = true
  rw [layOk_eq, layOk_eq, pad_zero _ rfl, pad_zero _ rfl]
  show (decide (2 ≤ 1024) && ((idB commT && true) && (idB ssndT && true))) = true
  rw [comm_id, ssnd_id]
  rfl
theorem smp_small (p : Pcm) (hf : fitsN 2 p = 0) (x : Com) : (smp7 p x).size ≤ 33554432 := pack_size p hf _ _
theorem z8_size : z8T.size = 8 := rfl
theorem size_plain7 (p : Pcm) (hf : fitsN 2 p = 0) : sizeL (pl7C p) = 42 + (smp7 p (sndP7 p)).size + (if (smp7 p (sndP7 p)).size % 2 = 1 then 1 else 0) := by
  have h1 := (com_parts p hf).1
  have e1 : hasPadB ⟨commT, comT p, 0⟩ = false := by
    unfold hasPadB oddC
    simp only
    rw [h1]
    rfl
  have z : (z8T ++ smp7 p (sndP7 p)).size = 8 + (smp7 p (sndP7 p)).size := by rw [ByteArray.size_append, z8_size]
  have e2 : hasPadB ⟨ssndT, z8T ++ smp7 p (sndP7 p), 0⟩ = decide ((smp7 p (sndP7 p)).size % 2 = 1) := by
    unfold hasPadB oddC
    simp only
    rw [z]
    have : (8 + (smp7 p (sndP7 p)).size) % 2 = (smp7 p (sndP7 p)).size % 2 := by omega
    rw [this]
    simp
  unfold pl7C sizeL
  simp only [List.map_cons, List.map_nil, List.sum_cons, List.sum_nil]
  unfold sizeC
  rw [e1, e2]
  simp only [h1, z]
  by_cases q : (smp7 p (sndP7 p)).size % 2 = 1
  · rw [decide_eq_true q, if_pos q]
    simp
    omega
  · rw [decide_eq_false q, if_neg q]
    simp
    omega
theorem body_plain7 (p : Pcm) (hf : fitsN 2 p = 0) : ∀ c ∈ pl7C p, c.body.size < 4294967296 := by
  have h1 := (com_parts p hf).1
  have h2 := smp_small p hf (sndP7 p)
  intro c hc
  have hc2 : c = ⟨commT, comT p, 0⟩ ∨ c = ⟨ssndT, z8T ++ smp7 p (sndP7 p), 0⟩ := by
    unfold pl7C at hc
    simpa using hc
  rcases hc2 with rfl | rfl
  · show (comT p).size < _
    omega
  · show (z8T ++ smp7 p (sndP7 p)).size < _
    rw [ByteArray.size_append, z8_size]
    omega
/-- Samples that fit go into a plain file. -/
theorem plain_ok7 (p : Pcm) (hf : fitsN 2 p = 0) : ok7 p aiffT (pl7L p) = true := by
  obtain ⟨k1, k2, k3⟩ := lk_plain p hf z8T
  have hbl := bl_plain p hf
  have hs := smp_small p hf (sndP7 p)
  have hz := size_plain7 p hf
  have hls := lay_size (pl7C p) (stand_plain7 p) (body_plain7 p hf)
  have hb := bodL_size (pl7C p)
  have hzz : sizeL (pl7C p) ≤ 33554432 + 43 := by
    rw [hz]
    split <;> omega
  have hl : laidB (pl7C p) = true := by
    unfold laidB roomB
    rw [stand_lay _ (stand_plain7 p), hls, decide_eq_true (by omega), decide_eq_false (by omega)]
    rfl
  have hof : isOfB (sndP7 p) p = true := isOf_mk rfl rfl rfl rfl
  have hho : holdB [⟨commT, comT p, 0⟩, ⟨ssndT, z8T, 0⟩] 1 (smp7 p (sndP7 p)) = true := by
    unfold holdB
    have e : atC [⟨commT, comT p, 0⟩, ⟨ssndT, z8T, 0⟩] 1 = ⟨ssndT, z8T, 0⟩ := rfl
    rw [e]
    simp only
    rw [z8_st.1, z8_st.2, z8_size]
    rfl
  unfold ok7
  rw [hbl, hl, (pl7_eq p hf).1, k1, k2, k3, hof, hho]
  rfl
theorem fits16_7 : fitsN 2 (two 16) = 0 := by
  unfold fitsN
  rw [if_pos (show formatB 2 = true from rfl), if_pos two16]
  rfl
/-- The text that awake builds. -/
def s58 : ByteArray := b7T (two 16) aiffT (pl7L (two 16))
theorem s58_parts : s58.size = 58 ∧ s58.extract 0 4 = formT ∧ p7E s58 = 0 ∧ p7P s58 = two 16 ∧ opF s58 = aiffT ∧ p7L s58 = pl7L (two 16) ∧ b7E (two 16) aiffT (pl7L (two 16)) = 0 := by
  obtain ⟨h1, _, h3, h4, h5, h6⟩ := hold7 (two 16) aiffT (pl7L (two 16)) fits16_7 (plain_ok7 _ fits16_7)
  have hT : s58 = headT7 aiffT (12 + ((layT (pl7C (two 16)) true).size : Int)) ++ layT (pl7C (two 16)) true := by
    unfold s58 b7T
    rw [if_pos h1, bl_plain _ fits16_7]
  have hls := lay_size (pl7C (two 16)) (stand_plain7 _) (body_plain7 _ fits16_7)
  have hsm : (smp7 (two 16) (sndP7 (two 16))).size = 4 := by
    rw [(smp_pack (two 16) (sndP7 (two 16)) fits16_7).2]
    rfl
  have hz := size_plain7 (two 16) fits16_7
  rw [hsm] at hz
  obtain ⟨t1, t2, _⟩ := head_text aiffT (layT (pl7C (two 16)) true) rfl (by rw [hls, hz]; decide)
  rw [← hT] at t1 t2
  rw [hls, hz] at t1
  exact ⟨t1, t2, h3, h4, h5, h6, h1⟩
def helloT : ByteArray := ⟨#[104, 101, 108, 108, 111]⟩
theorem hello_E : p7E ⟨#[104, 101, 108, 108, 111]⟩ = 3 := by
  have h : opE ⟨#[104, 101, 108, 108, 111]⟩ = 3 := by
    unfold opE begB7
    rw [decide_eq_true (show (((⟨#[104, 101, 108, 108, 111]⟩ : ByteArray).size : Nat) : Int) < 12 from by decide)]
    rfl
  unfold p7E
  rw [if_neg (by rw [h]; decide), h]
theorem fair_read7 (s : ByteArray) (h : p7E s = 0) : FairT (p7L s) ∧ (p7L s).length ≤ 1024 ∧ (opF s).size ≤ 4 := by
  unfold p7E at h
  by_cases h1 : opE s = 0
  case neg =>
    rw [if_neg h1] at h
    exact absurd h h1
  rw [if_pos h1] at h
  obtain ⟨b1, b2⟩ := op_body s h1
  obtain ⟨o1, o2, o3, _, _⟩ := op_parts s h1
  obtain ⟨a1, _, _⟩ := chunks_lay _ _ o1
  have hid := lay_id _ (Bool.and_eq_true_iff.1 a1).2
  refine ⟨?_, ?_, ?_⟩
  · intro c hc
    unfold p7L cut7L at hc
    split at hc
    · exact ⟨by have := hid c hc; omega, by have := b1 c hc; omega⟩
    · rename_i hn
      rcases List.mem_or_eq_of_mem_set hc with q | q
      · exact ⟨by have := hid c q; omega, by have := b1 c q; omega⟩
      · by_cases hi : (opI s).toNat < (opL s).length
        · have hm : (opL s).getD (opI s).toNat noC ∈ opL s := by
            rw [List.getD_eq_getElem?_getD, List.getElem?_eq_getElem hi]
            exact List.getElem_mem hi
          have i1 := hid _ hm
          have i2 := b1 _ hm
          subst q
          unfold cut7C atC
          refine ⟨?_, ?_⟩
          · show ((opL s).getD (opI s).toNat noC).id.size ≤ _
            omega
          · show (ByteArray.extract _ 0 _).size ≤ _
            rw [ByteArray.size_extract]
            omega
        · rw [List.set_eq_of_length_le (by omega)] at hc
          exact ⟨by have := hid c hc; omega, by have := b1 c hc; omega⟩
  · unfold p7L cut7L
    split
    · exact b2
    · rw [List.length_set]
      exact b2
  · unfold opF
    rw [ByteArray.size_extract]
    omega
theorem fair_plain7 (p : Pcm) (hf : fitsN 2 p = 0) : FairT (pl7L p) ∧ (pl7L p).length = 2 := by
  have h1 := (com_parts p hf).1
  rw [(pl7_eq p hf).1]
  refine ⟨fun c hc => ?_, rfl⟩
  have hc2 : c = ⟨commT, comT p, 0⟩ ∨ c = ⟨ssndT, z8T, 0⟩ := by simpa using hc
  rcases hc2 with rfl | rfl
  · exact ⟨by show commT.size ≤ _; decide, by show (comT p).size ≤ _; omega⟩
  · exact ⟨by show ssndT.size ≤ _; decide, by show z8T.size ≤ _; decide⟩
theorem sameA_refl (f : ByteArray) (l : List Chk) : sameW f l f l = true := by
  unfold sameW
  rw [sameC_refl, beq_self_eq_true]
  rfl

end Go.Proofs.YtaepgjheknkojaaGreat

namespace Go.Proofs.YtaepgjheknkojaaGreat
open Go.RowKit
set_option linter.unusedSimpArgs false
set_option linter.unusedVariables false

/-- Rows from block B on. -/
structure FreshQ (B : Nat) (w : World) (ao : Option Addr) (xs : List (List Int)) : Prop where
  own : ∀ b off, ao = some ⟨b, off, none⟩ → 0 < xs.length → B ≤ b
  rows : ∀ b off, ao = some ⟨b, off, none⟩ → ∀ i, i < xs.length → ∀ a n c, w.cell? ⟨b, off + i, none⟩ = some (.slice a n c) → ∀ ba oa, a = some ⟨ba, oa, none⟩ → B ≤ ba
theorem FreshQ.of {B : Nat} {w : World} {ao : Option Addr} {xs : List (List Int)} (h : Fresh B w ao xs) : FreshQ B w ao xs := ⟨h.own, fun b off e i hi a n c hc ba oa ha => (h.rows b off e i hi a n c hc ba oa ha).1⟩
theorem FreshQ.below {B : Nat} {w w' : World} {ao : Option Addr} {xs : List (List Int)} (h : FreshQ B w ao xs) (hr : RowsAt w ao xs) (hB : Below w.heap.size w w') : FreshQ B w' ao xs := by
  refine ⟨h.own, fun b off e i hi a n c hc ba oa ha => ?_⟩
  obtain ⟨b2, off2, e2, hcell⟩ := hr.lies (by omega)
  rw [e] at e2
  cases e2
  obtain ⟨a', c', h1, _⟩ := hcell i hi
  have hk : w'.cell? ⟨b, off + i, none⟩ = w.cell? ⟨b, off + i, none⟩ := World.cell?_of_block (w := w) (hB.block b (lt_cell h1))
  rw [hk] at hc
  exact h.rows b off e i hi a n c hc ba oa ha
theorem RowsAt.setQ {B : Nat} {w : World} {ao : Option Addr} {xs : List (List Int)} (h : RowsAt w ao xs) (hf : FreshQ B w ao xs) {a : Addr} (ha : a.block < B) (u : Value) : RowsAt (w.setCell a u) ao xs ∧ FreshQ B (w.setCell a u) ao xs := by
  have hk : ∀ b o, B ≤ b → (w.setCell a u).cell? ⟨b, o, none⟩ = w.cell? ⟨b, o, none⟩ := fun b o hb => World.cell?_of_block (w := w) (Below.heap_setCell _ _ _ _ (by show b ≠ a.block; omega))
  refine ⟨⟨h.len, fun h0 => ?_⟩, ⟨hf.own, fun b off e i hi x n c hc ba oa hx => ?_⟩⟩
  · obtain ⟨b, off, e, hcell⟩ := h.lies h0
    refine ⟨b, off, e, fun i hi => ?_⟩
    obtain ⟨a', c', h1, h2, h3, h4⟩ := hcell i hi
    refine ⟨a', c', by rw [hk _ _ (hf.own b off e h0)]; exact h1, h2, h3, ⟨h4.len, h4.num, fun hl => ?_⟩⟩
    obtain ⟨ba, oa, e3, h5⟩ := h4.lies hl
    refine ⟨ba, oa, e3, fun j hj => ?_⟩
    rw [hk _ _ (hf.rows b off e i hi a' _ c' h1 ba oa e3)]
    exact h5 j hj
  · rw [hk _ _ (hf.own b off e (by omega))] at hc
    exact hf.rows b off e i hi x n c hc ba oa hx
theorem ChksAt.setOther {w : World} {ao : Option Addr} {l : List Chk} (h : ChksAt w ao l) {B : Nat} (hf : FreshC B ao) {a : Addr} (ha : a.block < B) (u : Value) : ChksAt (w.setCell a u) ao l := by
  refine ⟨fun h0 => ?_⟩
  obtain ⟨b', off, e, hc⟩ := h.lies h0
  refine ⟨b', off, e, fun i c hi => ?_⟩
  obtain ⟨h0, h1, h2⟩ := hc i c hi
  have hb := hf b' off e
  have k : ∀ o, (w.setCell a u).cell? ⟨b', o, .none⟩ = w.cell? ⟨b', o, .none⟩ := fun o => World.cell?_of_block (w := w) (Below.heap_setCell _ _ _ _ (by show b' ≠ a.block; omega))
  exact ⟨by rw [k]; exact h0, by rw [k]; exact h1, by rw [k]; exact h2⟩

/-- What Parse answers. -/
def GivesB7 (w : World) (s : ByteArray) (e : Ending) (w' : World) : Prop := ∃ q po pc wf l wo wc, e = .returned (.tuple #[pcmV q po pc, .agg (waveC wf l wo wc), .int .i64 (p7E s)]) ∧ Below w.heap.size w w' ∧ RowsAt w' po q.pl ∧ ChksAt w' wo l ∧ (p7E s = 0 → q = p7P s ∧ wf = opF s ∧ l = p7L s) ∧ (p7E s ≠ 0 → q = ⟨0, 0, 0, []⟩ ∧ wf = ⟨#[]⟩ ∧ l = [])

set_option maxRecDepth 20000 in
set_option maxHeartbeats 6400000 in
theorem Parse7_no (s : ByteArray) (w : World) (hs : s.size ≤ 140737488351232) (hE : p7E s ≠ 0) :
    Calls Tryz.prog 6 #[.string s] w (GivesB7 w s) := by
  have HJ0 : Hid (Ja7 w zeroP7 zeroW ((w.alloc (.cells zeroP7 24)).alloc (.cells zeroW 27))) := Ja7.new2 w _ _
  have kp := fun wx => parse7_spec s wx hs
  have HGB : Hid (∀ w', Below w.heap.size w w' → GivesB7 w s (.returned (.tuple #[.agg zeroP7, .agg zeroW, .int .i64 (p7E s)])) w') := fun w' hB =>
    ⟨⟨0, 0, 0, []⟩, none, 0, ⟨#[]⟩, [], none, 0, rfl, hB, rows_none _ _, ChksAt.nil _ _, fun q => absurd q hE, fun _ => ⟨rfl, rfl, rfl⟩⟩
  have hEb : (p7E s != 0) = true := by simpa using hE
  have KP : Hid (∀ wx, Calls Tryz.prog 16 #[.string s] wx fun e w' => ∃ q po pc wf wo n wc, e = .returned (.tuple #[pcmV q po pc, .agg #[.string wf, .slice wo n wc], .int .i64 (p7E s)]) ∧ Below wx.heap.size wx w') := fun wx => (kp wx).mono fun e w' h => by
    obtain ⟨q, po, pc, wf, wo, n, wc, e1, hB, _⟩ := h
    exact ⟨q, po, pc, wf, wo, n, wc, e1, hB⟩
  clear kp hE
  generalize p7E s = E at *
  go_enter Tryz.func6, Tryz.ntmps6
  go_wp2_with fail
  refine (KP.out _).mono ?_
  rintro e w2 ⟨q, po, pc, wf, wo, n, wc, rfl, hB⟩
  have H2 : Hid (Ja7 w zeroP7 zeroW ((w2.alloc (.cells (pcmC q po pc) 24)).alloc (.cells #[.string wf, .slice wo n wc] 27))) := ((HJ0.out.next hB).next ((Below.refl _ _).alloc (Nat.le_refl _) _)).next ((Below.refl _ _).alloc (Nat.le_refl _) _)
  clear KP hB HJ0
  go_upto_region 3 with fail
  generalize hw3 : World.alloc (World.alloc w2 _) _ = w3
  have HZ : Hid (Ja7 w zeroP7 zeroW w3) := by
    rw [← hw3]
    exact H2.out
  clear hw3 H2
  have p0 := HZ.out.p 0 _ rfl
  have p1 := HZ.out.p 1 _ rfl
  have p2 := HZ.out.p 2 _ rfl
  have p3 := HZ.out.p 3 _ rfl
  have x0 := HZ.out.sk 0 _ rfl
  have x1 := HZ.out.sk 1 _ rfl
  have pz0 := HZ.out.pz 0
  have pz1 := HZ.out.pz 1
  have pz2 := HZ.out.pz 2
  have pz3 := HZ.out.pz 3
  have xz0 := HZ.out.wz 0
  have xz1 := HZ.out.wz 1
  have HW : Hid _ := HZ.out.self
  go_wp2_with fail
  rw [HW.out]
  exact bodyPost_ret (v := .tuple #[.agg zeroP7, .agg zeroW, .int .i64 E]) (res_parse7 rfl HZ.out.rp HZ.out.rw' rfl rfl _ _ rfl rfl rfl) rfl (HGB.out _ HZ.out.below)

set_option maxRecDepth 20000 in
set_option maxHeartbeats 6400000 in
theorem Parse7_yes (s : ByteArray) (w : World) (hs : s.size ≤ 140737488351232) (hE : p7E s = 0) :
    Calls Tryz.prog 6 #[.string s] w (GivesB7 w s) := by
  have HJ0 : Hid (Ja7 w zeroP7 zeroW ((w.alloc (.cells zeroP7 24)).alloc (.cells zeroW 27))) := Ja7.new2 w _ _
  have kp := fun wx => parse7_spec s wx hs
  have HGB : Hid (∀ q po pc wf l wo wc w', Below w.heap.size w w' → RowsAt w' po q.pl → ChksAt w' wo l → q = p7P s → wf = opF s → l = p7L s → GivesB7 w s (.returned (.tuple #[pcmV q po pc, .agg (waveC wf l wo wc), .int .i64 0])) w') := fun q po pc wf l wo wc w' hB hr hc e1 e2 e3 =>
    ⟨q, po, pc, wf, l, wo, wc, by rw [hE], hB, hr, hc, fun _ => ⟨e1, e2, e3⟩, fun q => absurd hE q⟩
  have KP : Hid (∀ wx, Calls Tryz.prog 16 #[.string s] wx fun e w' => ∃ q po pc wf l wo wc, e = .returned (.tuple #[pcmV q po pc, .agg (waveC wf l wo wc), .int .i64 0]) ∧ Below wx.heap.size wx w' ∧ Hid (q = p7P s ∧ RowsAt w' po q.pl ∧ wf = opF s ∧ l = p7L s ∧ ChksAt w' wo l ∧ Fresh wx.heap.size w' po q.pl ∧ FreshC wx.heap.size wo)) := fun wx => (kp wx).mono fun e w' h => by
    obtain ⟨q, po, pc, wf, wo, n, wc, e1, hB, hh⟩ := h
    obtain ⟨g1, g2, g3, g4, g5, g6⟩ := hh hE
    rw [hE, g5] at e1
    exact ⟨q, po, pc, wf, p7L s, wo, wc, e1, hB, g1, g2, g4, rfl, g6.at, g3, g6.fresh⟩
  clear kp hE
  go_enter Tryz.func6, Tryz.ntmps6
  go_wp2_with fail
  refine (KP.out _).mono ?_
  rintro e w2 ⟨q, po, pc, wf, l, wo, wc, rfl, hB, hh⟩
  have H2 : Hid (Ja7 w zeroP7 zeroW ((w2.alloc (.cells (pcmC q po pc) 24)).alloc (.cells (waveC wf l wo wc) 27)) ∧ ((w2.alloc (.cells (pcmC q po pc) 24)).alloc (.cells (waveC wf l wo wc) 27)).heap[w2.heap.size]? = some (.cells (pcmC q po pc) 24 (0, 0)) ∧ ((w2.alloc (.cells (pcmC q po pc) 24)).alloc (.cells (waveC wf l wo wc) 27)).heap[w2.heap.size + 1]? = some (.cells (waveC wf l wo wc) 27 (0, 0)) ∧ RowsAt ((w2.alloc (.cells (pcmC q po pc) 24)).alloc (.cells (waveC wf l wo wc) 27)) po q.pl ∧ FreshQ (w.heap.size + 2) ((w2.alloc (.cells (pcmC q po pc) 24)).alloc (.cells (waveC wf l wo wc) 27)) po q.pl ∧ ChksAt ((w2.alloc (.cells (pcmC q po pc) 24)).alloc (.cells (waveC wf l wo wc) 27)) wo l ∧ FreshC (w.heap.size + 2) wo ∧ w.heap.size + 1 < w2.heap.size) := by
    have hBB : Below w2.heap.size w2 ((w2.alloc (.cells (pcmC q po pc) 24)).alloc (.cells (waveC wf l wo wc) 27)) := ((Below.refl _ _).alloc (Nat.le_refl _) _).alloc (by simp) _
    have hsz : ((w.alloc (.cells zeroP7 24)).alloc (.cells zeroW 27)).heap.size = w.heap.size + 2 := by simp
    have hz := (HJ0.out.next hB).next hBB
    have hh2 := hh.out.2.2.2.2.2
    rw [hsz] at hh2
    refine ⟨hz, ?_, ?_, hh.out.2.1.below hBB, (FreshQ.of hh2.1).below hh.out.2.1 hBB, hh.out.2.2.2.2.1.below hBB, hh2.2, lt_of_block (HJ0.out.next hB).rw'⟩
    · exact (((Below.refl _ _).alloc (Nat.le_refl _) _).block _ (by simp)).trans (heap_alloc_new w2 _)
    · rw [← show (w2.alloc (.cells (pcmC q po pc) 24)).heap.size = w2.heap.size + 1 from by simp]
      exact heap_alloc_new _ _
  have HEQ : Hid (q = p7P s ∧ wf = opF s ∧ l = p7L s) := ⟨hh.out.1, hh.out.2.2.1, hh.out.2.2.2.1⟩
  clear KP hB HJ0 hh
  go_upto_region 4 with fail
  generalize hw3 : World.alloc (World.alloc w2 _) _ = w3
  have HZ : Hid (Ja7 w zeroP7 zeroW w3 ∧ w3.heap[w2.heap.size]? = some (.cells (pcmC q po pc) 24 (0, 0)) ∧ w3.heap[w2.heap.size + 1]? = some (.cells (waveC wf l wo wc) 27 (0, 0)) ∧ RowsAt w3 po q.pl ∧ FreshQ (w.heap.size + 2) w3 po q.pl ∧ ChksAt w3 wo l ∧ FreshC (w.heap.size + 2) wo ∧ w.heap.size + 1 < w2.heap.size) := by
    rw [← hw3]
    exact H2.out
  clear hw3 H2
  have lo := HZ.out.2.2.2.2.2.2.2
  generalize w2.heap.size = Q at *
  have a0 : w3.cell? ⟨Q, 0, none⟩ = some (.int .i64 q.rate) := by rw [cell_of_row _ _ _ _ _ _ HZ.out.2.1]; rfl
  have a1 : w3.cell? ⟨Q, 1, none⟩ = some (.int .i64 q.ch) := by rw [cell_of_row _ _ _ _ _ _ HZ.out.2.1]; rfl
  have a2 : w3.cell? ⟨Q, 2, none⟩ = some (.int .i64 q.wd) := by rw [cell_of_row _ _ _ _ _ _ HZ.out.2.1]; rfl
  have a3 : w3.cell? ⟨Q, 3, none⟩ = some (.slice po q.pl.length pc) := by rw [cell_of_row _ _ _ _ _ _ HZ.out.2.1]; rfl
  have b0 : w3.cell? ⟨Q + 1, 0, none⟩ = some (.string wf) := by rw [cell_of_row _ _ _ _ _ _ HZ.out.2.2.1]; rfl
  have b1 : w3.cell? ⟨Q + 1, 1, none⟩ = some (.slice wo l.length wc) := by rw [cell_of_row _ _ _ _ _ _ HZ.out.2.2.1]; rfl
  have p0 := HZ.out.1.p 0 _ rfl
  have p1 := HZ.out.1.p 1 _ rfl
  have p2 := HZ.out.1.p 2 _ rfl
  have p3 := HZ.out.1.p 3 _ rfl
  have x0 := HZ.out.1.sk 0 _ rfl
  have x1 := HZ.out.1.sk 1 _ rfl
  have pz0 := HZ.out.1.pz 0
  have pz1 := HZ.out.1.pz 1
  have pz2 := HZ.out.1.pz 2
  have pz3 := HZ.out.1.pz 3
  have xz0 := HZ.out.1.wz 0
  have xz1 := HZ.out.1.wz 1
  have HF : Hid (∀ wf', wf' = ((((((w3.setCell ⟨w.heap.size, 0, none⟩ (.int .i64 q.rate)).setCell ⟨w.heap.size, 1, none⟩ (.int .i64 q.ch)).setCell ⟨w.heap.size, 2, none⟩ (.int .i64 q.wd)).setCell ⟨w.heap.size, 3, none⟩ (.slice po q.pl.length pc)).setCell ⟨w.heap.size + 1, 0, none⟩ (.string wf)).setCell ⟨w.heap.size + 1, 1, none⟩ (.slice wo l.length wc)) → Ja7 w (pcmC q po pc) (waveC wf l wo wc) wf' ∧ RowsAt wf' po q.pl ∧ ChksAt wf' wo l) := fun wf' e => by
    subst e
    obtain ⟨j1, _, _, j4, j5, j6, j7, _⟩ := HZ.out
    refine ⟨(((((j1.setP 0 _).setP 1 _).setP 2 _).setP 3 _).setW 0 _).setW 1 _, ?_, ?_⟩
    · obtain ⟨m1, n1⟩ := j4.setQ j5 (a := ⟨w.heap.size, 0, none⟩) (by show w.heap.size < _; omega) (.int .i64 q.rate)
      obtain ⟨m2, n2⟩ := m1.setQ n1 (a := ⟨w.heap.size, 1, none⟩) (by show w.heap.size < _; omega) (.int .i64 q.ch)
      obtain ⟨m3, n3⟩ := m2.setQ n2 (a := ⟨w.heap.size, 2, none⟩) (by show w.heap.size < _; omega) (.int .i64 q.wd)
      obtain ⟨m4, n4⟩ := m3.setQ n3 (a := ⟨w.heap.size, 3, none⟩) (by show w.heap.size < _; omega) (.slice po q.pl.length pc)
      obtain ⟨m5, n5⟩ := m4.setQ n4 (a := ⟨w.heap.size + 1, 0, none⟩) (by show w.heap.size + 1 < _; omega) (.string wf)
      exact (m5.setQ n5 (a := ⟨w.heap.size + 1, 1, none⟩) (by show w.heap.size + 1 < _; omega) _).1
    · exact (((((j6.setOther j7 (a := ⟨w.heap.size, 0, none⟩) (by show w.heap.size < _; omega) _).setOther j7 (a := ⟨w.heap.size, 1, none⟩) (by show w.heap.size < _; omega) _).setOther j7 (a := ⟨w.heap.size, 2, none⟩) (by show w.heap.size < _; omega) _).setOther j7 (a := ⟨w.heap.size, 3, none⟩) (by show w.heap.size < _; omega) _).setOther j7 (a := ⟨w.heap.size + 1, 0, none⟩) (by show w.heap.size + 1 < _; omega) _).setOther j7 (a := ⟨w.heap.size + 1, 1, none⟩) (by show w.heap.size + 1 < _; omega) _
  go_region
  all_goals go_wp2_with fail
  all_goals (generalize hwz : World.setCell _ _ _ = wz; obtain ⟨g1, g2, g3⟩ := HF.out wz hwz.symm; exact bodyPost_ret (v := .tuple #[pcmV q po pc, .agg (waveC wf l wo wc), .int .i64 0]) (res_parse7 rfl (show wz.drew.heap[w.heap.size]? = _ from g1.rp) (show wz.drew.heap[w.heap.size + 1]? = _ from g1.rw') rfl rfl _ _ rfl rfl rfl) rfl (HGB.out q po pc wf l wo wc _ (g1.below.trans ⟨rfl, rfl, rfl, Nat.le_refl _, fun _ _ => rfl⟩) (g2.keep (fun _ _ => rfl)) (g3.below ⟨rfl, rfl, rfl, Nat.le_refl _, fun _ _ => rfl⟩) HEQ.out.1 HEQ.out.2.1 HEQ.out.2.2))
theorem Parse7_spec (s : ByteArray) (w : World) (hs : s.size ≤ 140737488351232) : Calls Tryz.prog 6 #[.string s] w (GivesB7 w s) := by
  by_cases h : p7E s = 0
  · exact Parse7_yes s w hs h
  · exact Parse7_no s w hs h

end Go.Proofs.YtaepgjheknkojaaGreat
