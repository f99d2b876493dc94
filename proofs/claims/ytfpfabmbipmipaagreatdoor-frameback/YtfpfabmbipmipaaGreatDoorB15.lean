/- Own text. -/
import Derived.Test.YtfpfabmbipmipaaGreatDoorB14
import Derived.Laws.BytesArg
set_option linter.unusedSimpArgs false
set_option linter.unusedVariables false
set_option maxRecDepth 20000
set_option maxHeartbeats 12800000
namespace Go.Proofs.YtfpfabmbipmipaaGreatDoor
open Go.RowKit
theorem enc_back_at (s : ByteArray) (a : Nat) (c : Rc) (b o r : Nat) (hk : Rok c b o r) (l : List Int) (hlen : l.length = b - r) (hfit : allFit c b o r l (2 ^ o)) (R : List Nat) (h : ahead s a = encB c b r l ++ R) (hl : a + (encB c b r l).length <= 8 * s.size) :
  decP s a b r = some (c, l, a + (encB c b r l).length) := by
 have hot : c.o.toNat = o := by have := hk.ho; omega
 have he : encB c b r l = putB c.m 2 ++ putB c.o 4 ++ partsB c b o r l (2 ^ o) := by unfold encB; rw [hot]
 have hm0 := hk.m0
 have hm1 := hk.m1
 have ho15 := hk.cut.o15
 have hho := hk.ho
 have hL := congrArg List.length he
 simp only [List.length_append] at hL
 have a1 := h
 rw [he] at a1
 simp only [List.append_assoc] at a1
 have hp2 : (2 : Int) ^ (2 : Int).toNat = 4 := rfl
 have hp4 : (2 : Int) ^ (4 : Int).toNat = 16 := rfl
 obtain ⟨g1, g2, g3⟩ := get_back s a c.m 2 hm0 _ a1 (by omega) (putE_of c.m 2 (by omega) (by omega) (by rw [hp2]; omega))
 have a2 := ahead_next a1
 obtain ⟨k1, k2, k3⟩ := get_back s (a + (putB c.m 2).length) c.o 4 (by omega) _ a2 (by omega) (putE_of c.o 4 (by omega) (by omega) (by rw [hp4]; omega))
 have a3 := ahead_next a2
 have ht : rdTop s a b r = some (c.m, c.o, a + (putB c.m 2).length + (putB c.o 4).length) := by
  unfold rdTop
  rw [g2, g3, k2, k3, if_pos ⟨g1, hm1⟩, if_pos ⟨k1, by rw [hho]; exact hk.cut.ok⟩]
 have hpb := parts_back s _ c b o r hk l hlen hfit R a3 (by omega) (2 ^ o) (Nat.le_refl _)
 unfold decP
 rw [ht]
 simp only [Int.toNat_natCast, hot]
 rw [hpb]
 simp only
 have e1 : l.take (frN b o r (2 ^ o)) = l := List.take_of_length_le (by rw [hk.cut.total]; omega)
 have e2 : c.P.take (2 ^ o) = c.P := List.take_of_length_le (by rw [hk.lP]; omega)
 have e3 : c.E.take (2 ^ o) = c.E := List.take_of_length_le (by rw [hk.lE]; omega)
 rw [e1, e2, e3, hL]
 congr 3
 omega
theorem encR_back (s : ByteArray) (a : Nat) (c : Rc) (b r : Int) (l : List Int) (hR : encR c b r l = true) (R : List Nat) (h : ahead s a = encB c b.toNat r.toNat l ++ R) (hl : a + (encB c b.toNat r.toNat l).length <= 8 * s.size) :
  decP s a b r = some (c, l, a + (encB c b.toNat r.toNat l).length) := by
 obtain ⟨b', o', r', rfl, rfl, hk, hf⟩ := encR_yes hR
 obtain ⟨h1, h2⟩ := (fitB_iff c b' o' r' l).1 hf
 exact enc_back_at s a c b' o' r' hk l h1 h2 R h hl
theorem res_back (s : ByteArray) (a : Nat) (b o p h : Int) (C D m : List Int) (c : Rc) (ho : 0 <= o) (hD : (D.length : Int) = o) (hob : D.length <= m.length) (hm : Rng m) (hR : encR c b o (leftN D h.toNat m (m.length - o.toNat)) = true) (R : List Nat) (ha : ahead s a = encB c b.toNat o.toNat (leftN D h.toNat m (m.length - o.toNat)) ++ R) (hl : a + (encB c b.toNat o.toNat (leftN D h.toNat m (m.length - o.toNat))).length <= 8 * s.size) :
  rdRes s a b o p h C D (m.take o.toNat) = some ⟨m, p, h, C, c, a + (encB c b.toNat o.toNat (leftN D h.toNat m (m.length - o.toNat))).length⟩ := by
 unfold rdRes
 rw [encR_back s a c b o _ hR R ha hl]
 simp only
 have e : o.toNat = D.length := by omega
 rw [e, leftN_len, back9 D h.toNat m hob hm]
theorem pow7 : (2 : Int) ^ (7 : Int).toNat = 128 := rfl
theorem rdW_back (s : ByteArray) (a : Nat) (w v : Int) (h0 : 0 <= w) (hwv : w < v) (hv : v <= 33) (R : List Nat) (h : ahead s a = wstB w ++ R) (hl : a + (wstB w).length <= 8 * s.size) : rdW s a v = some (w, a + (wstB w).length) := by
 unfold wstB at h hl ⊢
 unfold rdW
 by_cases hw : 0 < w
 ·rw [if_pos hw] at h hl ⊢
  rw [List.append_assoc] at h
  rw [List.length_append] at hl ⊢
  obtain ⟨g1, g2, g3⟩ := get_back s a 1 1 (by decide) _ h (by omega) (putE_of 1 1 (by decide) (by decide) (by decide))
  have h2 := ahead_next h
  obtain ⟨u1, u2, u3⟩ := unr_back s (a + (putB 1 1).length) (w - 1) R h2 (by omega) (by unfold unrE; rw [if_pos (by omega)])
  rw [if_pos g1, if_pos g2, g3, u2, u3, if_pos ⟨u1, by omega⟩, show w - 1 + 1 = w by omega, Nat.add_assoc]
 ·rw [if_neg hw] at h hl ⊢
  obtain ⟨g1, g2, g3⟩ := get_back s a 0 1 (by decide) _ h (by omega) (putE_of 0 1 (by decide) (by decide) (by decide))
  rw [if_pos g1, g2, if_neg (by decide), g3, show w = 0 by omega]
theorem head10_back (s : ByteArray) (a : Nat) (b v k o w : Int) (hk : kinds k o) (hob : o <= b) (h0 : 0 <= w) (hwv : w < v) (hv : v <= 33) (R : List Nat) (h : ahead s a = putB (typK k o) 7 ++ (wstB w ++ R)) (hl : a + (putB (typK k o) 7).length + (wstB w).length <= 8 * s.size) :
  rdSHead s a b v = some (k, o, w, a + (putB (typK k o) 7).length + (wstB w).length) := by
 obtain ⟨t1, t2, t3⟩ := kindN_typ hk
 obtain ⟨g1, g2, g3⟩ := get_back s a (typK k o) 7 t2 _ h (by omega) (putE_of _ 7 (by decide) (by decide) (by rw [pow7]; omega))
 have h2 := ahead_next h
 unfold rdSHead
 rw [if_pos g1, g2, t1]
 simp only
 rw [g3, rdW_back s _ w v h0 hwv hv R h2 (by omega)]
 simp only
 rw [if_pos hob]
theorem nums_whole (s : ByteArray) (a : Nat) (k e : Int) (X : List Int) (R : List Nat) (h : ahead s a = numsB k e X ++ R) (hl : a + (numsB k e X).length <= 8 * s.size) (hf : ∀ x ∈ X, fitE k e x) (n : Nat) (hn : n = X.length) : rdAll s k e n a = some (X, a + (numsB k e X).length) := by
 have := nums_back s a k e X R h hl hf n (by omega)
 rw [hn, List.take_length] at this
 rw [hn]; exact this
theorem kd_kinds {s : Sb} {b : Int} (h : kdA s ∨ kdF s b ∨ kdL s b) : kinds s.k s.o := by
 unfold kinds
 rcases h with h | h | h
 ·obtain ⟨h1, _, h3, _⟩ := h; omega
 ·obtain ⟨h1, _, h3, h4, _⟩ := h; omega
 ·obtain ⟨h1, h2, h3, _⟩ := h; omega
theorem kd_ob {s : Sb} {b : Int} (hb : 1 <= b) (h : kdA s ∨ kdF s b ∨ kdL s b) : s.o <= b := by
 rcases h with h | h | h
 ·obtain ⟨_, _, h3, _⟩ := h; omega
 ·obtain ⟨_, _, _, _, h5, _⟩ := h; exact h5
 ·obtain ⟨_, _, _, h4, _⟩ := h; exact h4
theorem body_back (s : ByteArray) (a : Nat) (q : Sb) (b v : Int) (m : List Int) (hb : 1 <= b) (hml : (m.length : Int) = b) (hkd : kdA q ∨ kdF q b ∨ kdL q b) (hv : 1 <= v - q.w) (hfit : ∀ x ∈ m, sigE x (v - q.w) = 0) (hsame : q.k = 0 -> ∀ x ∈ m, x = m.getD 0 0) (hR : q.k = 2 ∨ q.k = 3 -> encR q.R b q.o (resN q m) = true) (R : List Nat) (h : ahead s a = bodyB q v m ++ R) (hl : a + (bodyB q v m).length <= 8 * s.size) :
  rdSBody s a b (v - q.w) q.k q.o = some ⟨m, q.p, q.h, q.C, q.R, a + (bodyB q v m).length⟩ := by
 have hrng := fit_rng m (v - q.w) hfit
 have hml2 : m.length = b.toNat := by omega
 have hfe : ∀ x ∈ m, fitE 0 (v - q.w) x := fun x hx => (fit0 _ x (by omega) (by omega)).2 (hfit x hx)
 unfold bodyB at h hl ⊢
 unfold rdSBody
 rcases hkd with hA | hF | hL
 ·obtain ⟨hk, ⟨p0, h0, c0⟩, o0, r0⟩ := hA
  rcases hk with hk | hk
  ·rw [if_pos hk] at h hl ⊢
   rw [if_pos hk]
   have hx : m.getD 0 0 ∈ m := getD_mem m 0 (by omega)
   obtain ⟨g1, g2, g3⟩ := sig_back s a (m.getD 0 0) (v - q.w) R h hl (hfit _ hx)
   have hm : List.replicate b.toNat (m.getD 0 0) = m := by
    apply List.ext_getElem?
    intro j
    by_cases hj : j < m.length
    ·rw [List.getElem?_replicate, if_pos (by omega), List.getElem?_eq_getElem hj]
     exact congrArg some (hsame hk _ (List.getElem_mem hj)).symm
    ·rw [List.getElem?_eq_none (by rw [List.length_replicate]; omega), List.getElem?_eq_none (by omega)]
   rw [if_pos g1, g2, g3, hm, p0, h0, c0, r0]
  ·rw [if_neg (by omega), if_pos hk] at h hl ⊢
   rw [if_neg (by omega), if_pos hk, nums_whole s a 0 _ m R h hl hfe b.toNat (by omega), p0, h0, c0, r0]
 focus
  obtain ⟨hk, ⟨p0, h0, c0⟩, o0, o4, ob, _⟩ := hF
  rw [if_neg (by omega), if_neg (by omega), if_pos hk] at h hl ⊢
  rw [if_neg (by omega), if_neg (by omega)]
  rw [List.append_assoc] at h
  rw [List.length_append] at hl ⊢
 rotate_left
 focus
  obtain ⟨hk, o1, o32, ob, p1, p15, h0, h15, cl, cf, _⟩ := hL
  rw [if_neg (by omega), if_neg (by omega), if_neg (by omega)] at h hl ⊢
  rw [if_neg (by omega), if_neg (by omega)]
  simp only [List.append_assoc] at h
  simp only [List.length_append] at hl ⊢
 rotate_left
 all_goals
  rw [nums_whole s a 0 _ (m.take q.o.toNat) _ h (by omega) (fun x hx => hfe x (List.mem_of_mem_take hx)) q.o.toNat (by rw [List.length_take]; omega)]
  simp only
 ·rw [if_pos hk]
  have hres : resN q m = leftN (wF q.o.toNat) (0 : Int).toNat m (m.length - q.o.toNat) := by unfold resN; rw [if_pos hk]; rfl
  have hwF := wF_len q.o.toNat (by omega)
  have h2 := ahead_next h
  have hRR := hR (Or.inl hk)
  rw [hres] at h2 hl hRR ⊢
  rw [hml2] at h2 hl ⊢
  rw [hml2] at hRR
  have hb2 := res_back s _ b q.o 0 0 [] (wF q.o.toNat) m q.R o0 (by omega) (by omega) hrng (by rw [hml2]; exact hRR) R (by rw [hml2]; exact h2) (by rw [hml2]; omega)
  rw [hb2, p0, h0, c0, hml2, Nat.add_assoc]
 ·rw [if_neg (by omega)]
  have h2 := ahead_next h
  have hp4 : (2 : Int) ^ (4 : Int).toNat = 16 := rfl
  have hp5 : (2 : Int) ^ (5 : Int).toNat = 32 := rfl
  obtain ⟨g1, g2, g3⟩ := get_back s _ (q.p - 1) 4 (by omega) _ h2 (by omega) (putE_of _ 4 (by decide) (by decide) (by rw [hp4]; omega))
  have h3 := ahead_next h2
  obtain ⟨k1, k2, k3⟩ := get_back s _ q.h 5 h0 _ h3 (by omega) (putE_of _ 5 (by decide) (by decide) (by rw [hp5]; omega))
  have h4 := ahead_next h3
  have hc := nums_whole s _ 0 q.p q.C _ h4 (by omega) (fun x hx => (fit0 _ x (by omega) (by omega)).2 (cf x hx)) q.o.toNat (by omega)
  have h5 := ahead_next h4
  unfold rdLpc
  rw [g2, g3, k2, k3, if_pos ⟨g1, by omega, k1, h15⟩, show q.p - 1 + 1 = q.p by omega, hc]
  simp only
  have hres : resN q m = leftN q.C q.h.toNat m (m.length - q.o.toNat) := by unfold resN; rw [if_neg (by omega)]
  have hRR := hR (Or.inr hk)
  rw [hres] at h5 hl hRR ⊢
  rw [hml2] at h5 hl ⊢
  rw [hml2] at hRR
  have hb2 := res_back s _ b q.o q.p q.h q.C q.C m q.R (by omega) cl (by omega) hrng (by rw [hml2]; exact hRR) R (by rw [hml2]; exact h5) (by rw [hml2]; omega)
  rw [hb2, hml2]
  simp only [Nat.add_assoc]
theorem sub_back (s : ByteArray) (a : Nat) (q : Sb) (b v : Int) (l : List Int) (hok : subOk q b v) (hll : (l.length : Int) = b) (hg : goesOk q v l) (R : List Nat) (h : ahead s a = subB q v l ++ R) (hl : a + (subB q v l).length <= 8 * s.size) :
  decS s a b v = some (l, q, a + (subB q v l).length) := by
 obtain ⟨hb, hv, hw, hkd⟩ := hok
 obtain ⟨hf, hd, hs, hr⟩ := hg
 have hrl := fit_rng l v hf
 unfold subB at h hl ⊢
 rw [typN_is] at h hl ⊢
 simp only [List.append_assoc] at h
 simp only [List.length_append] at hl ⊢
 have hh := head10_back s a b v q.k q.o q.w (kd_kinds hkd) (kd_ob hb.1 hkd) hw.1 hw.2 hv.2 _ h (by omega)
 have h2 := ahead_next (ahead_next h)
 have hml : ((shrL l q.w.toNat).length : Int) = b := by rw [shr_len]; exact hll
 have hfm : ∀ x ∈ shrL l q.w.toNat, sigE x (v - q.w) = 0 := fun x hx => by
  have := shr_fit l v.toNat q.w.toNat (by omega) (fun y hy => by rw [Int.toNat_of_nonneg (by omega)]; exact hf y hy) hd x hx
  rw [show ((v.toNat - q.w.toNat : Nat) : Int) = v - q.w by omega] at this
  exact this
 have hsm : q.k = 0 -> ∀ x ∈ shrL l q.w.toNat, x = (shrL l q.w.toNat).getD 0 0 := fun hk x hx => by
  obtain ⟨y, hy, rfl⟩ := List.mem_map.1 hx
  have hpos : 0 < l.length := List.length_pos_of_mem hy
  have e : (shrL l q.w.toNat).getD 0 0 = l.getD 0 0 / 2 ^ q.w.toNat := by
   unfold shrL
   rw [List.getD_eq_getElem?_getD, List.getD_eq_getElem?_getD, List.getElem?_map, List.getElem?_eq_getElem hpos]; rfl
  rw [e, <- hs hk y hy]
 have hbk := body_back s _ q b v (shrL l q.w.toNat) hb.1 hml hkd (by omega) hfm hsm (fun hk => by rw [<- hll]; exact hr hk) R h2 (by omega)
 unfold decS
 rw [hh]
 simp only
 rw [hbk]
 simp only
 have hall : allT 0 (v - q.w) (shrL l q.w.toNat) = true := allT_yes (fun x hx => (fit0 _ x (by omega) (by omega)).2 (hfm x hx))
 rw [if_pos hall, shl_shr l q.w.toNat hrl hd]
 simp only [Nat.add_assoc]
theorem numsB_fit_len (v : Int) (m : List Int) (hv : v <= 64) (hv1 : 1 <= v) : (numsB 0 v m).length <= 64 * m.length := by
 induction m with
 | nil => simp [numsB]
 | cons x t ih =>
  have e : numsB 0 v (x :: t) = oneB 0 v x ++ numsB 0 v t := by simp [numsB]
  have h1 : (oneB 0 v x).length <= 64 := by
   unfold oneB sigB
   rw [if_neg (by omega), if_neg (by omega)]
   split
   ·rw [bitsOf_length]; omega
   ·simp
  rw [e, List.length_append, List.length_cons]; omega
section
variable {w : Nat}
def bstep (p n : BitVec w) (b : Bool) : BitVec w := (n <<< 1) ^^^ (if n.msb != b then p else 0#w)
theorem xor_if (p a b : BitVec w) (s t : Bool) : (a ^^^ b) ^^^ (if (s ^^ t) then p else 0#w) = (a ^^^ (if s then p else 0#w)) ^^^ (b ^^^ (if t then p else 0#w)) := by
 apply BitVec.eq_of_getLsbD_eq
 intro i hi
 cases s <;> cases t <;> simp only [BitVec.getLsbD_xor, Bool.xor_false, Bool.false_xor, Bool.true_xor, Bool.not_true, Bool.not_false, Bool.xor_true, if_true, if_false, Bool.false_eq_true, BitVec.getLsbD_zero] <;>
  cases a.getLsbD i <;> cases b.getLsbD i <;> cases p.getLsbD i <;> rfl
theorem bstep_xor (p n m : BitVec w) (b c : Bool) : bstep p (n ^^^ m) (b ^^ c) = bstep p n b ^^^ bstep p m c := by
 unfold bstep
 rw [BitVec.msb_xor, BitVec.shiftLeft_xor_distrib, <- xor_if]
 congr 2
 cases n.msb <;> cases m.msb <;> cases b <;> cases c <;> rfl
theorem bstep_own (p n : BitVec w) : bstep p n n.msb = n <<< 1 := by
 unfold bstep
 simp
def bfold (p n : BitVec w) (l : List Bool) : BitVec w := l.foldl (bstep p) n
theorem bfold_append (p n : BitVec w) (l k : List Bool) : bfold p n (l ++ k) = bfold p (bfold p n l) k := by
 unfold bfold
 rw [List.foldl_append]
def bits8 (b : Nat) : List Bool := [b.testBit 7, b.testBit 6, b.testBit 5, b.testBit 4, b.testBit 3, b.testBit 2, b.testBit 1, b.testBit 0]
def byteStep (p n : BitVec w) (b : Nat) : BitVec w := bfold p n (bits8 b)
theorem byteStep_xor (p n m : BitVec w) (b c : Nat) : byteStep p (n ^^^ m) (b ^^^ c) = byteStep p n b ^^^ byteStep p m c := by
 simp only [byteStep, bfold, bits8, List.foldl_cons, List.foldl_nil, Nat.testBit_xor, bstep_xor]
def crcL (p n : BitVec w) (l : List Nat) : BitVec w := l.foldl (byteStep p) n
theorem crcL_append (p n : BitVec w) (l k : List Nat) : crcL p n (l ++ k) = crcL p (crcL p n l) k := by
 unfold crcL
 rw [List.foldl_append]
def ownBits (n : BitVec w) (k : Nat) : List Bool := (List.range k).map fun j => (n <<< j).msb
theorem bfold_own (p n : BitVec w) : ∀ k, bfold p n (ownBits n k) = n <<< k
 | 0 => by simp [ownBits, bfold]
 | k + 1 => by
  have e : ownBits n (k + 1) = ownBits n k ++ [(n <<< k).msb] := by simp [ownBits, List.range_succ]
  rw [e, bfold_append, bfold_own p n k]
  show bstep p (n <<< k) (n <<< k).msb = _
  rw [bstep_own, <- BitVec.shiftLeft_add]
theorem shl_msb (n : BitVec w) (j : Nat) (h : j < w) : (n <<< j).msb = n.getLsbD (w - 1 - j) := by
 rw [BitVec.msb_eq_getLsbD_last, BitVec.getLsbD_shiftLeft]
 have h1 : w - 1 < w := by omega
 have h2 : ¬ w - 1 < j := by omega
 simp [h1, h2]
theorem ownBits_byte (n : BitVec w) (s : Nat) (h : s + 8 <= w) : (List.range 8).map (fun j => n.getLsbD (s + 7 - j)) = bits8 (n.toNat / 2 ^ s % 256) := by
 have hb : ∀ i, i < 8 -> (n.toNat / 2 ^ s % 256).testBit i = n.getLsbD (s + i) := by
  intro i hi
  rw [show (256 : Nat) = 2 ^ 8 from rfl, Nat.testBit_mod_two_pow, Nat.testBit_div_two_pow, BitVec.getLsbD]
  simp [hi, Nat.add_comm]
 simp only [bits8, hb 7 (by omega), hb 6 (by omega), hb 5 (by omega), hb 4 (by omega), hb 3 (by omega), hb 2 (by omega), hb 1 (by omega), hb 0 (by omega)]
 rfl
theorem byteStep_own (p n : BitVec w) (h : 8 <= w) : byteStep p n (n.toNat / 2 ^ (w - 8) % 256) = n <<< 8 := by
 have e := ownBits_byte n (w - 8) (by omega)
 have e2 : ownBits n 8 = (List.range 8).map (fun j => n.getLsbD (w - 8 + 7 - j)) := by
  unfold ownBits
  apply List.map_congr_left
  intro j hj
  have hj' : j < 8 := by simpa using hj
  rw [shl_msb n j (by omega)]
  congr 1
  omega
 unfold byteStep
 rw [<- e, <- e2, bfold_own]
theorem byteStep_table (p n : BitVec w) (b : Nat) (h : 8 <= w) : byteStep p n b = (n <<< 8) ^^^ byteStep p 0#w (n.toNat / 2 ^ (w - 8) % 256 ^^^ b) := by
 rw [<- byteStep_own p n h, <- byteStep_xor, BitVec.xor_zero, <- Nat.xor_assoc, Nat.xor_self, Nat.zero_xor]
end
section
variable {w : Nat}
def rstep (q n : BitVec w) : BitVec w := (n >>> 1) ^^^ (if n.getLsbD 0 then q else 0#w)
def r8 (q n : BitVec w) : BitVec w := rstep q (rstep q (rstep q (rstep q (rstep q (rstep q (rstep q (rstep q n)))))))
end
def p8 : BitVec 8 := 0x07#8
def p16 : BitVec 16 := 0x8005#16
theorem i64_xor_nat (a b : Nat) (ha : a < 9223372036854775808) (hb : b < 9223372036854775808) : bits .xor .i64 (a : Int) (b : Int) = ((a ^^^ b : Nat) : Int) := by
 show IntKind.i64.wrap ((BitVec.ofInt 64 (a : Int) ^^^ BitVec.ofInt 64 (b : Int)).toNat : Int) = _
 rw [BitVec.toNat_xor, BitVec.toNat_ofInt, BitVec.toNat_ofInt]
 have ea : ((a : Int) % ((2 ^ 64 : Nat) : Int)).toNat = a := by omega
 have eb : ((b : Int) % ((2 ^ 64 : Nat) : Int)).toNat = b := by omega
 rw [ea, eb]
 have hl : a ^^^ b < 2 ^ 63 := Nat.xor_lt_two_pow ha hb
 rw [IntKind.wrap_i64]
 omega
theorem i64_and_nat (a b : Nat) (ha : a < 9223372036854775808) (hb : b < 9223372036854775808) : bits .and .i64 (a : Int) (b : Int) = ((a &&& b : Nat) : Int) := by
 show IntKind.i64.wrap ((BitVec.ofInt 64 (a : Int) &&& BitVec.ofInt 64 (b : Int)).toNat : Int) = _
 rw [BitVec.toNat_and, BitVec.toNat_ofInt, BitVec.toNat_ofInt]
 have ea : ((a : Int) % ((2 ^ 64 : Nat) : Int)).toNat = a := by omega
 have eb : ((b : Int) % ((2 ^ 64 : Nat) : Int)).toNat = b := by omega
 rw [ea, eb]
 have hl : a &&& b < 2 ^ 63 := Nat.and_lt_two_pow _ hb
 rw [IntKind.wrap_i64]
 omega
def clen (n : Nat) : Nat :=
 if n < 128 then 1 else if n < 2048 then 2 else if n < 65536 then 3 else if n < 2097152 then 4 else if n < 67108864 then 5 else if n < 2147483648 then 6 else 7
def hm (k : Nat) : Nat := if k = 1 then 0 else 256 - 2 ^ (8 - k)
def hc (b : Nat) : Nat :=
 if b < 128 then 1 else if b < 192 then 0 else if b < 224 then 2 else if b < 240 then 3 else if b < 248 then 4 else if b < 252 then 5 else if b < 254 then 6 else if b < 255 then 7 else 0
def cbound (k : Nat) : Nat := if k = 1 then 128 else 2 ^ (5 * k + 1)
theorem clen_range (n : Nat) : 1 <= clen n /\ clen n <= 7 := by unfold clen; (repeat' split) <;> omega
theorem seven (k : Nat) (h1 : 1 <= k) (h7 : k <= 7) : k = 1 ∨ k = 2 ∨ k = 3 ∨ k = 4 ∨ k = 5 ∨ k = 6 ∨ k = 7 := by omega
theorem clen_le (n k : Nat) (h1 : 1 <= k) (h7 : k <= 7) (h : n < cbound k) : clen n <= k := by
 unfold clen
 rcases seven k h1 h7 with rfl | rfl | rfl | rfl | rfl | rfl | rfl <;> simp [cbound] at h <;> (repeat' split) <;> omega
theorem clen_bound (n : Nat) (h : n < 68719476736) : n < cbound (clen n) := by
 unfold clen
 repeat' split
 all_goals (simp [cbound]; omega)
theorem cbound_le (k : Nat) (h1 : 1 <= k) (h7 : k <= 7) : cbound k <= 68719476736 := by
 rcases seven k h1 h7 with rfl | rfl | rfl | rfl | rfl | rfl | rfl <;> simp [cbound]
def codeAt (n k j : Nat) : Nat := if j = 0 then hm k + n / 64 ^ (k - 1) else 128 + n / 64 ^ (k - 1 - j) % 64
def codeL (n k : Nat) : List Nat := (List.range k).map (codeAt n k)
theorem codeL_length (n k : Nat) : (codeL n k).length = k := by simp [codeL]
theorem top_lt (n k : Nat) (h1 : 1 <= k) (h7 : k <= 7) (h : n < cbound k) : n / 64 ^ (k - 1) < (if k = 1 then 128 else 2 ^ (7 - k)) := by
 rcases seven k h1 h7 with rfl | rfl | rfl | rfl | rfl | rfl | rfl <;> simp [cbound] at h ⊢ <;> omega
theorem codeAt_lt (n k j : Nat) (h1 : 1 <= k) (h7 : k <= 7) (h : n < cbound k) : codeAt n k j < 256 := by
 have ht := top_lt n k h1 h7 h
 unfold codeAt hm
 split
 ·rcases seven k h1 h7 with rfl | rfl | rfl | rfl | rfl | rfl | rfl <;> simp at ht ⊢ <;> omega
 ·have := Nat.mod_lt (n / 64 ^ (k - 1 - j)) (show 64 > 0 by decide)
  omega
theorem codeL_lt (n k : Nat) (h1 : 1 <= k) (h7 : k <= 7) (h : n < cbound k) : ∀ b ∈ codeL n k, b < 256 := by
 intro b hb
 obtain ⟨j, _, rfl⟩ := List.mem_map.1 hb
 exact codeAt_lt n k j h1 h7 h
theorem hc_code (n k : Nat) (h1 : 1 <= k) (h7 : k <= 7) (h : n < cbound k) : hc (codeAt n k 0) = k /\ codeAt n k 0 - hm k = n / 64 ^ (k - 1) := by
 have ht := top_lt n k h1 h7 h
 have all : ∀ k : Fin 8, ∀ q : Fin 128, 1 <= k.val -> q.val < (if k.val = 1 then 128 else 2 ^ (7 - k.val)) -> hc (hm k.val + q.val) = k.val := by decide +kernel
 have hq : n / 64 ^ (k - 1) < 128 := by
  rcases seven k h1 h7 with rfl | rfl | rfl | rfl | rfl | rfl | rfl <;> simp at ht ⊢ <;> omega
 unfold codeAt
 rw [if_pos rfl]
 exact ⟨all ⟨k, by omega⟩ ⟨n / 64 ^ (k - 1), hq⟩ h1 ht, Nat.add_sub_cancel_left ..⟩
def unc (l : List Nat) : Nat -> Nat -> Nat -> Nat × Nat
 | 0, _, n => (n, 0)
 | m + 1, i, n => if l.length <= i then (0, 10) else if l.getD i 0 < 128 ∨ 192 <= l.getD i 0 then (0, 2) else unc l m (i + 1) (n * 64 + (l.getD i 0 - 128))
theorem unc_end (l : List Nat) (i n : Nat) : unc l 0 i n = (n, 0) := rfl
theorem unc_short (l : List Nat) (m i n : Nat) (h : l.length <= i) : unc l (m + 1) i n = (0, 10) := by unfold unc; rw [if_pos h]
theorem unc_bad (l : List Nat) (m i n : Nat) (h : ¬ l.length <= i) (hb : l.getD i 0 < 128 ∨ 192 <= l.getD i 0) : unc l (m + 1) i n = (0, 2) := by unfold unc; rw [if_neg h, if_pos hb]
theorem unc_step (l : List Nat) (m i n : Nat) (h : ¬ l.length <= i) (hb : ¬ (l.getD i 0 < 128 ∨ 192 <= l.getD i 0)) : unc l (m + 1) i n = unc l m (i + 1) (n * 64 + (l.getD i 0 - 128)) := by
 conv => lhs; unfold unc
 rw [if_neg h, if_neg hb]
def uncEnd (k : Nat) (r : Nat × Nat) : Nat × Nat × Nat := if r.2 ≠ 0 then (0, 0, r.2) else if clen r.1 < k then (0, 0, 2) else (r.1, k, 0)
def uncode (l : List Nat) : Nat × Nat × Nat :=
 if l.length = 0 then (0, 0, 10) else if hc (l.getD 0 0) = 0 then (0, 0, 2) else uncEnd (hc (l.getD 0 0)) (unc l (hc (l.getD 0 0) - 1) 1 (l.getD 0 0 - hm (hc (l.getD 0 0))))
theorem unc_read (l : List Nat) (n : Nat) : ∀ (m i : Nat), i + m <= l.length -> (∀ t, t < m -> l.getD (i + t) 0 = 128 + n / 64 ^ (m - 1 - t) % 64) -> unc l m i (n / 64 ^ m) = (n, 0) := by
 intro m
 induction m with
 | zero => intro i _ _; simp [unc]
 | succ m ih =>
  intro i hl hb
  have h0 := hb 0 (by omega)
  simp only [Nat.add_zero, Nat.sub_zero, Nat.add_sub_cancel] at h0
  have hmod := Nat.mod_lt (n / 64 ^ m) (show 64 > 0 by decide)
  rw [unc_step l m i _ (by omega) (by rw [h0]; omega), h0]
  have e : n / 64 ^ (m + 1) * 64 + (128 + n / 64 ^ m % 64 - 128) = n / 64 ^ m := by
   rw [Nat.pow_succ, <- Nat.div_div_eq_div_mul]
   omega
  rw [e]
  refine ih (i + 1) (by omega) (fun t ht => ?_)
  have := hb (t + 1) (by omega)
  rw [show i + 1 + t = i + (t + 1) from by omega, this, show m + 1 - 1 - (t + 1) = m - 1 - t from by omega]
theorem code_getD (n k j : Nat) (rest : List Nat) (h : j < k) : (codeL n k ++ rest).getD j 0 = codeAt n k j := by
 rw [List.getD_eq_getElem?_getD, List.getElem?_append_left (by rw [codeL_length]; exact h), List.getElem?_eq_getElem (by rw [codeL_length]; exact h)]
 simp [codeL]
theorem uncode_code (n : Nat) (h : n < 68719476736) (rest : List Nat) : uncode (codeL n (clen n) ++ rest) = (n, clen n, 0) := by
 have hr := clen_range n
 have hb := clen_bound n h
 obtain ⟨k, hk⟩ : ∃ k, k = clen n := ⟨_, rfl⟩
 rw [<- hk] at hr hb ⊢
 obtain ⟨e1, e2⟩ := hc_code n k hr.1 hr.2 hb
 unfold uncode
 rw [code_getD n k 0 rest (by omega), e1, e2, if_neg (by rw [List.length_append, codeL_length]; omega), if_neg (by omega)]
 rw [unc_read (codeL n k ++ rest) n (k - 1) 1 (by rw [List.length_append, codeL_length]; omega) (fun t ht => ?_)]
 ·unfold uncEnd
  rw [if_neg (by simp), if_neg (by simp [<- hk])]
 ·rw [code_getD n k (1 + t) rest (by omega)]
  unfold codeAt
  rw [if_neg (by omega), show k - 1 - (1 + t) = k - 1 - 1 - t from by omega]
theorem hc_range (b : Nat) : hc b <= 7 := by unfold hc; (repeat' split) <;> omega
theorem hc_first (b : Nat) (hb : b < 256) (h : hc b ≠ 0) : hm (hc b) <= b /\ (b - hm (hc b) + 1) * 64 ^ (hc b - 1) <= cbound (hc b) := by
 have all : ∀ c : Fin 256, hc c.val ≠ 0 -> hm (hc c.val) <= c.val /\ (c.val - hm (hc c.val) + 1) * 64 ^ (hc c.val - 1) <= cbound (hc c.val) := by decide +kernel
 exact all ⟨b, hb⟩ h
structure Fm where
 v : Bool
 num : Int
 size : Int
 sc : Int
 rc : Int
 wc : Int
 mo : Int
 S : List Sb
structure Inf where
 rate : Int
 ch : Int
 wd : Int
abbrev Sb0 : Sb := ⟨0, 0, 0, 0, 0, [], ⟨0, 0, [], []⟩⟩
def sizN (c : Int) : Int := if c = 1 then 192 else if 2 <= c /\ c <= 5 then 576 * 2 ^ (c - 2).toNat else if 8 <= c /\ c <= 15 then 256 * 2 ^ (c - 8).toNat else 0
def ratN (c : Int) : Int := [0, 88200, 176400, 192000, 8000, 16000, 22050, 24000, 32000, 44100, 48000, 96000].getD c.toNat 0
def widN (c : Int) : Int := [0, 8, 12, 0, 16, 20, 24, 0].getD c.toNat 0
def wdA (i : Inf) (mo : Int) (c : Nat) : Int := if (c = 1 /\ (mo = 1 ∨ mo = 3)) ∨ (c = 0 /\ mo = 2) then i.wd + 1 else i.wd
abbrev mayF (i : Inf) : Prop := (1 <= i.ch /\ i.ch <= 8) /\ (4 <= i.wd /\ i.wd <= 24) /\ 1 <= i.rate
abbrev saysZ (f : Fm) : Prop := (1 <= f.sc /\ f.sc <= 15) /\ (sizN f.sc = f.size ∨ (f.sc = 6 /\ f.size <= 256) ∨ f.sc = 7)
abbrev saysR (f : Fm) (i : Inf) : Prop := f.rc = 0 ∨ ((1 <= f.rc /\ f.rc <= 11) /\ ratN f.rc = i.rate) ∨ (f.rc = 12 /\ i.rate % 1000 = 0 /\ i.rate <= 255000) ∨ (f.rc = 13 /\ i.rate <= 65535) ∨ (f.rc = 14 /\ i.rate % 10 = 0 /\ i.rate <= 655350)
abbrev saysW (f : Fm) (i : Inf) : Prop := f.wc = 0 ∨ ((1 <= f.wc /\ f.wc <= 6) /\ ¬ f.wc = 3 /\ widN f.wc = i.wd)
abbrev okH (f : Fm) (i : Inf) : Prop := mayF i /\ (1 <= f.size /\ f.size <= 4608) /\ (0 <= f.num /\ f.num <= (if f.v then 68719476735 else 2147483647)) /\ (0 <= f.mo /\ f.mo <= 3 /\ (f.mo = 0 ∨ i.ch = 2)) /\ saysZ f /\ saysR f i /\ saysW f i
abbrev okC (f : Fm) (i : Inf) : Prop := okH f i /\ (f.S.length : Int) = i.ch /\ ∀ c, c < f.S.length -> subOk (f.S.getD c Sb0) f.size (wdA i f.mo c)
def chnL (mo : Int) (P : List (List Int)) : List (List Int) := if mo = 0 then P else [zipN (stP mo.toNat) (P.getD 0 []) (P.getD 1 []) (P.getD 0 []).length, zipN (stQ mo.toNat) (P.getD 0 []) (P.getD 1 []) (P.getD 0 []).length]
abbrev okP (f : Fm) (i : Inf) (P : List (List Int)) : Prop := (P.length : Int) = i.ch /\ ∀ l ∈ P, (l.length : Int) = f.size /\ ∀ x ∈ l, sigE x i.wd = 0
abbrev okF (f : Fm) (i : Inf) (P : List (List Int)) : Prop := okC f i /\ okP f i P /\ ∀ c, c < f.S.length -> goesOk (f.S.getD c Sb0) (wdA i f.mo c) ((chnL f.mo P).getD c [])
def subsB (f : Fm) (i : Inf) (P : List (List Int)) : Nat -> List Nat
 | 0 => []
 | n + 1 => subsB f i P n ++ subB (f.S.getD n Sb0) (wdA i f.mo n) ((chnL f.mo P).getD n [])
def sizL (f : Fm) : List Nat := if f.sc = 6 then [(f.size - 1).toNat] else if f.sc = 7 then [(f.size - 1).toNat / 256, (f.size - 1).toNat % 256] else []
def ratL (f : Fm) (i : Inf) : List Nat := if f.rc = 12 then [(i.rate / 1000).toNat] else if f.rc = 13 then [i.rate.toNat / 256, i.rate.toNat % 256] else if f.rc = 14 then [(i.rate / 10).toNat / 256, (i.rate / 10).toNat % 256] else []
def fourL (f : Fm) (i : Inf) : List Nat := [255, 248 + (if f.v then 1 else 0), (f.sc * 16 + f.rc).toNat, ((if f.mo = 0 then i.ch - 1 else 7 + f.mo) * 16 + f.wc * 2).toNat]
def hedL (f : Fm) (i : Inf) : List Nat := fourL f i ++ codeL f.num.toNat (clen f.num.toNat) ++ sizL f ++ ratL f i
def crc8N (l : List Nat) : Nat := (crcL p8 0#8 l).toNat
def crc16N (l : List Nat) : Nat := (crcL p16 0#16 l).toNat
def be2 (n : Nat) : List Nat := [n / 256, n % 256]
def hedC (f : Fm) (i : Inf) : List Nat := hedL f i ++ [crc8N (hedL f i)]
def outL (l : List Nat) : List Nat := l ++ be2 (crc16N l)
def frL (f : Fm) (i : Inf) (P : List (List Int)) : List Nat := outL (hedC f i ++ pack (subsB f i P f.S.length))
theorem crc16_lt (l : List Nat) : crc16N l < 65536 := (crcL p16 0#16 l).isLt
theorem be2_lt (n : Nat) (h : n < 65536) : ∀ b ∈ be2 n, b < 256 := fun b hb => by
 unfold be2 at hb
 rcases List.mem_cons.1 hb with e | hb
 ·omega
 ·rw [List.mem_singleton] at hb; omega
theorem be2_len (n : Nat) : (be2 n).length = 2 := rfl
theorem outL_len (l : List Nat) : (outL l).length = l.length + 2 := by unfold outL; rw [List.length_append, be2_len]
end Go.Proofs.YtfpfabmbipmipaaGreatDoor
namespace Go.Proofs.YtfpfabmbipmipaaGreatDoor
open Go.RowKit
namespace S3
theorem lt32 (x : BitVec 32) : x.toNat < 4294967296 := x.isLt
theorem msb_div (x : BitVec 32) : x.toNat / 2147483648 = if x.msb then 1 else 0 := by
 rw [BitVec.msb_eq_decide]
 have := lt32 x
 by_cases h : 2147483648 <= x.toNat
 ·have e : decide (2 ^ (32 - 1) <= x.toNat) = true := by simpa using h
  rw [e]
  simp
  omega
 ·have e : decide (2 ^ (32 - 1) <= x.toNat) = false := by simpa using h
  rw [e]
  simp
  omega
theorem high_step (P x : BitVec 32) : bits .xor .u32 ((x.toNat : Int) * 2 % 4294967296) ((x.toNat : Int) / 2147483648 * (P.toNat : Int) % 4294967296) = ((bstep P x false).toNat : Int) := by
 have hx := lt32 x
 have hP := lt32 P
 have e1 : (x.toNat : Int) * 2 % 4294967296 = ((x.toNat * 2 % 4294967296 : Nat) : Int) := by simp
 have e2 : (x.toNat : Int) / 2147483648 * (P.toNat : Int) % 4294967296 = (((if x.msb then P.toNat else 0 : Nat)) : Int) := by
  have := msb_div x
  have e3 : (x.toNat : Int) / 2147483648 = ((x.toNat / 2147483648 : Nat) : Int) := by simp
  rw [e3, this]
  cases x.msb with
  | true => simp; omega
  | false => simp
 rw [e1, e2, u32_xor_nat _ _ (by omega) (by split <;> omega)]
 congr 1
 unfold bstep
 rw [BitVec.toNat_xor, BitVec.toNat_shiftLeft, Nat.shiftLeft_eq]
 cases x.msb <;> simp
def noBits : List Bool := [false, false, false, false, false, false, false, false]
theorem byteStep_zero (P : BitVec 32) (b : Nat) (hb : b < 256) : bfold P (BitVec.ofNat 32 (b * 16777216)) noBits = byteStep P 0#32 b := by
 have h1 := byteStep_xor P 0#32 (BitVec.ofNat 32 (b * 16777216)) b b
 have h2 := byteStep_own P (BitVec.ofNat 32 (b * 16777216)) (by decide)
 have h3 : (BitVec.ofNat 32 (b * 16777216)).toNat / 2 ^ (32 - 8) % 256 = b := by
  rw [BitVec.toNat_ofNat]
  omega
 rw [h3] at h2
 have h4 : BitVec.ofNat 32 (b * 16777216) <<< 8 = 0#32 := by
  apply BitVec.eq_of_toNat_eq
  rw [BitVec.toNat_shiftLeft, BitVec.toNat_ofNat, Nat.shiftLeft_eq]
  simp
  omega
 rw [h2, h4, Nat.xor_self] at h1
 have h5 : bits8 0 = noBits := by decide
 have h6 : byteStep P (0#32 ^^^ BitVec.ofNat 32 (b * 16777216)) 0 = bfold P (BitVec.ofNat 32 (b * 16777216)) noBits := by
  unfold byteStep
  rw [h5, BitVec.zero_xor]
 rw [h6] at h1
 simpa using h1
theorem byteStep_zero_xor (P : BitVec 32) (a b : Nat) : byteStep P 0#32 (a ^^^ b) = byteStep P 0#32 a ^^^ byteStep P 0#32 b := by
 have := byteStep_xor P 0#32 0#32 a b
 simpa using this
section
variable {w : Nat}
theorem up_get (k : Nat) (x : BitVec w) (i : Nat) : (x ++ 0#k).getLsbD i = if i < k then false else x.getLsbD (i - k) := by
 rw [BitVec.getLsbD_append]
 split <;> simp
theorem bstep_up (k : Nat) (hw : 0 < w) (p n : BitVec w) (b : Bool) : bstep (p ++ 0#k) (n ++ 0#k) b = bstep p n b ++ 0#k := by
 have hm : (n ++ 0#k).msb = n.msb := by
  rw [BitVec.msb_append, if_neg (by omega)]
 unfold bstep
 rw [hm]
 apply BitVec.eq_of_getLsbD_eq
 intro i hi
 rw [up_get, BitVec.getLsbD_xor, BitVec.getLsbD_shiftLeft]
 by_cases hik : i < k
 ·rw [if_pos hik]
  have : (if (n.msb != b) = true then p ++ 0#k else 0#(w + k)).getLsbD i = false := by
   split
   ·rw [up_get, if_pos hik]
   ·simp
  rw [this, up_get, if_pos (by omega)]
  simp
 ·rw [if_neg hik, BitVec.getLsbD_xor, BitVec.getLsbD_shiftLeft]
  have : (if (n.msb != b) = true then p ++ 0#k else 0#(w + k)).getLsbD i = (if (n.msb != b) = true then p else 0#w).getLsbD (i - k) := by
   split
   ·rw [up_get, if_neg hik]
   ·simp
  rw [this, up_get]
  congr 1
  by_cases h0 : i = k
  ·subst h0
   by_cases hi0 : i = 0
   ·subst hi0
    simp
   ·rw [if_pos (by omega)]
    simp
  ·rw [if_neg (by omega)]
   have e1 : decide (i < w + k) = true := decide_eq_true hi
   have e2 : decide (i - k < w) = true := decide_eq_true (by omega)
   have e3 : decide (i < 1) = false := decide_eq_false (by omega)
   have e4 : decide (i - k < 1) = false := decide_eq_false (by omega)
   rw [e1, e2, e3, e4]
   congr 2
   omega
theorem bfold_up (k : Nat) (hw : 0 < w) (p : BitVec w) : ∀ (l : List Bool) (n : BitVec w), bfold (p ++ 0#k) (n ++ 0#k) l = bfold p n l ++ 0#k
 | [], _ => rfl
 | b :: l, n => by
  show bfold (p ++ 0#k) (bstep (p ++ 0#k) (n ++ 0#k) b) l = _
  rw [bstep_up k hw, bfold_up k hw p l]
  rfl
theorem crcL_up (k : Nat) (hw : 0 < w) (p : BitVec w) : ∀ (l : List Nat) (n : BitVec w), crcL (p ++ 0#k) (n ++ 0#k) l = crcL p n l ++ 0#k
 | [], _ => rfl
 | b :: l, n => by
  show crcL (p ++ 0#k) (bfold (p ++ 0#k) (n ++ 0#k) (bits8 b)) l = _
  rw [bfold_up k hw, crcL_up k hw p l]
  rfl
end
def P8 : BitVec 32 := 0x07000000#32
def P16 : BitVec 32 := 0x80050000#32
theorem crc8_up (l : List Nat) : (crcL P8 0#32 l).toNat / 16777216 = (crcL p8 0#8 l).toNat := by
 have h := crcL_up (w := 8) 24 (by decide) p8 l 0#8
 have e1 : crcL P8 0#32 l = crcL p8 0#8 l ++ 0#24 := by
  rw [<- h]
  rfl
 rw [e1, BitVec.toNat_append]
 simp [Nat.shiftLeft_eq]
theorem crc16_up (l : List Nat) : (crcL P16 0#32 l).toNat / 65536 = (crcL p16 0#16 l).toNat := by
 have h := crcL_up (w := 16) 16 (by decide) p16 l 0#16
 have e1 : crcL P16 0#32 l = crcL p16 0#16 l ++ 0#16 := by
  rw [<- h]
  rfl
 rw [e1, BitVec.toNat_append]
 simp [Nat.shiftLeft_eq]
theorem high_add (P x : BitVec 32) (b : Nat) (hb : b < 256) : bits .xor .u32 ((x.toNat : Int) * 256 % 4294967296) ((byteStep P 0#32 (x.toNat / 16777216 ^^^ b)).toNat : Int) = ((byteStep P x b).toNat : Int) := by
 have hx := lt32 x
 have e1 : (x.toNat : Int) * 256 % 4294967296 = ((x.toNat * 256 % 4294967296 : Nat) : Int) := by simp
 rw [e1, u32_xor_nat _ _ (by omega) (lt32 _), byteStep_table P x b (by decide), BitVec.toNat_xor, BitVec.toNat_shiftLeft, Nat.shiftLeft_eq]
 have e2 : x.toNat / 2 ^ (32 - 8) % 256 = x.toNat / 16777216 := by omega
 rw [e2]
theorem bfold_snoc (P c : BitVec 32) (i : Nat) : bfold P c (List.replicate (i + 1) false) = bstep P (bfold P c (List.replicate i false)) false := by
 rw [List.replicate_succ', bfold_append]
 rfl
theorem movedHigh_spec (kd wd pol tn : Int) (lo : Bool) (h0 : 0 <= wd) (h32 : wd <= 32) (P c : BitVec 32) (hP : pol * 2 ^ (32 - wd).toNat % 4294967296 = (P.toNat : Int)) (w : World) :
  Calls Tryz.prog 217 #[.agg #[.int .i64 kd, .int .i64 wd, .int .u32 pol, .bool lo, .int .u32 tn], .int .u32 (c.toNat : Int)] w fun e w' => e = .returned (.int .u32 ((bfold P c noBits).toNat : Int)) /\ Lo w w' := by
 go_enter Tryz.func217, Tryz.ntmps217
 go_wp2
 go_loop [1, 6] (fun x t => ∃ (i : Nat) (r : BitVec 32), i <= 8 /\ r = bfold P c (List.replicate i false) /\ x = .int .u32 (r.toNat : Int) /\ t = .int .i64 (i : Int)) (fun _ t => 8 - (intOf t).toNat)
 case atStart => exact ⟨0, c, Nat.zero_le _, rfl, rfl, rfl⟩
 case round =>
  obtain ⟨i, r, hi, hr, rfl, rfl⟩ := hrel
  by_cases hlt : i < 8
  ·have HR : Hid (bstep P r false = bfold P c (List.replicate (i + 1) false)) := by
    show _ = _
    rw [bfold_snoc, <- hr]
   clear hr
   have HS := high_step P r
   have hrl := lt32 r
   go_wp2
   go_round
   case rel => exact ⟨i + 1, _, by omega, HR.out, rfl, by go_num⟩
   case measure => simp [intOf]; omega
  ·have h8 : i = 8 := by omega
   have HR : Hid (r = bfold P c noBits) := by
    rw [h8] at hr
    exact hr
   clear hr h8
   go_wp2
   go_ret
   exact ⟨by rw [HR.out]; rfl, aQ⟩
theorem byte_high (P : BitVec 32) (b : Nat) (hb : b < 256) : ∃ c : BitVec 32, (b : Int) * 16777216 = (c.toNat : Int) /\ byteStep P 0#32 b = bfold P c noBits := by
 have hl : b * 16777216 < 2 ^ 32 := by omega
 refine ⟨BitVec.ofNat 32 (b * 16777216), ?_, (byteStep_zero P b hb).symm⟩
 rw [BitVec.toNat_ofNat, Nat.mod_eq_of_lt hl]
 omega
theorem movedOf_high (kd wd pol tn : Int) (h0 : 0 <= wd) (h32 : wd <= 32) (P : BitVec 32) (hP : pol * 2 ^ (32 - wd).toNat % 4294967296 = (P.toNat : Int)) (b : Nat) (hb : b < 256) (w : World) :
  Calls Tryz.prog 196 #[.agg #[.int .i64 kd, .int .i64 wd, .int .u32 pol, .bool false, .int .u32 tn], .int .u32 (b : Int)] w fun e w' => e = .returned (.int .u32 ((byteStep P 0#32 b).toNat : Int)) /\ Lo w w' := by
 obtain ⟨c, hc, he⟩ := byte_high P b hb
 rw [he]
 have HC : ∀ w, Calls Tryz.prog 217 #[.agg #[.int .i64 kd, .int .i64 wd, .int .u32 pol, .bool false, .int .u32 tn], .int .u32 (c.toNat : Int)] w fun e w' => e = .returned (.int .u32 ((bfold P c noBits).toNat : Int)) /\ Lo w w' := fun w => movedHigh_spec kd wd pol tn false h0 h32 P c hP w
 generalize bfold P c noBits = z at HC ⊢
 have HC' : Hid (∀ w, G1 217 #[.agg #[.int .i64 kd, .int .i64 wd, .int .u32 pol, .bool false, .int .u32 tn], .int .u32 (c.toNat : Int)] w (.int .u32 (z.toNat : Int))) := HC
 clear HC hP he
 generalize z.toNat = zn at HC' ⊢
 generalize c.toNat = cn at HC' hc
 go_enter Tryz.func196, Tryz.ntmps196
 go_wp2_with fail
 refine (HC'.out _).mono ?_
 rintro e w1 ⟨rfl, hB⟩
 have HB : Hid (Lo w w1) := ((Below.refl w.heap.size w).alloc (Nat.le_refl _) _).trans (hB.mono (by simp))
 clear hB
 go_wp2
 go_ret
 exact ⟨rfl, HB.out⟩
end S3
end Go.Proofs.YtfpfabmbipmipaaGreatDoor
