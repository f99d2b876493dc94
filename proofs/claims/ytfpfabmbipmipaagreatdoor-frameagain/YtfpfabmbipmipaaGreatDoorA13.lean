/- Own text. -/
import Derived.Test.YtfpfabmbipmipaaGreatDoorA12
import Derived.RowKit
set_option linter.unusedSimpArgs false
set_option linter.unusedVariables false
set_option maxRecDepth 20000
set_option maxHeartbeats 12800000
namespace Go.Proofs.YtfpfabmbipmipaaGreatDoor
open Go.RowKit
theorem ahead_next {s : ByteArray} {a : Nat} {A R : List Nat} (h : ahead s a = A ++ R) : ahead s (a + A.length) = R := by
 rw [<- ahead_drop, h, List.drop_left]
theorem one_back (s : ByteArray) (a : Nat) (k e x : Int) (R : List Nat) (h : ahead s a = oneB k e x ++ R) (hl : a + (oneB k e x).length <= 8 * s.size) (hf : fitE k e x) :
  rdE s a k e = 0 /\ rdV s a k e = x /\ rdA s a k e = a + (oneB k e x).length := by
 unfold oneB at h hl ⊢
 unfold fitE at hf
 unfold rdE rdV rdA
 by_cases e1 : e = -1
 ·rw [if_pos e1] at h hl hf ⊢
  rw [if_pos e1, if_pos e1, if_pos e1]
  exact ric_back s a x k R h hl hf
 ·rw [if_neg e1] at h hl hf ⊢
  rw [if_neg e1, if_neg e1, if_neg e1]
  by_cases e2 : e = 0
  ·rw [if_pos e2] at h hl hf ⊢
   rw [if_pos e2, if_pos e2, if_pos e2]
   exact ⟨rfl, hf.symm, rfl⟩
  ·rw [if_neg e2] at h hl hf ⊢
   rw [if_neg e2, if_neg e2, if_neg e2]
   exact sig_back s a x e R h hl hf
theorem nums_split (k e : Int) (X : List Int) (n : Nat) (hn : n < X.length) : numsB k e X = numsB k e (X.take n) ++ (oneB k e (X.getD n 0) ++ numsB k e (X.drop (n + 1))) := by
 conv => lhs; rw [<- List.take_append_drop (n + 1) X, take_snoc X n hn]
 unfold numsB
 rw [List.flatMap_append, List.flatMap_append, List.append_assoc]
 simp
theorem nums_back (s : ByteArray) (a : Nat) (k e : Int) (X : List Int) (R : List Nat) (h : ahead s a = numsB k e X ++ R) (hl : a + (numsB k e X).length <= 8 * s.size) (hf : ∀ x ∈ X, fitE k e x) (n : Nat) (hn : n <= X.length) :
  rdAll s k e n a = some (X.take n, a + (numsB k e (X.take n)).length) := by
 induction n with
 | zero => rfl
 | succ n ih =>
  have h1 := ih (by omega)
  have hs := nums_split k e X n (by omega)
  have h2 : ahead s (a + (numsB k e (X.take n)).length) = oneB k e (X.getD n 0) ++ (numsB k e (X.drop (n + 1)) ++ R) := by
   apply ahead_next
   rw [h, hs]
   simp only [List.append_assoc]
  have hl2 : a + (numsB k e (X.take n)).length + (oneB k e (X.getD n 0)).length <= 8 * s.size := by
   rw [hs] at hl
   simp only [List.length_append] at hl
   omega
  obtain ⟨r1, r2, r3⟩ := one_back s _ k e _ _ h2 hl2 (hf _ (getD_mem X n (by omega)))
  rw [rdAll_some h1 r1, r2, r3, take_snoc X n (by omega), numsB_snoc, List.length_append, Nat.add_assoc]
theorem putE_of (u k : Int) (h0 : 0 <= k) (h1 : k <= 64) (h2 : u < 2 ^ k.toNat) : putE u k = 0 := by unfold putE; rw [if_pos ⟨h0, h1, h2⟩]
theorem pow4m (m : Int) (h0 : 0 <= m) (h1 : m <= 1) : (2 : Int) ^ (4 + m).toNat = 16 + 16 * m := by
 rcases (show m = 0 ∨ m = 1 by omega) with e | e <;> rw [e] <;> rfl
theorem head_back (s : ByteArray) (a : Nat) (m k e : Int) (h0 : 0 <= m) (h1 : m <= 1) (hm : mayOk m k e) (R : List Nat) (h : ahead s a = headB m k e ++ R) (hl : a + (headB m k e).length <= 8 * s.size) :
  rdHead s a m = some (k, e, a + (headB m k e).length) := by
 have hp := pow4m m h0 h1
 unfold headB at h hl ⊢
 unfold mayOk at hm
 unfold rdHead
 by_cases e1 : e = -1
 ·rw [if_pos e1] at h hl ⊢
  obtain ⟨g1, g2, g3⟩ := get_back s a k (4 + m) (by omega) R h hl (putE_of k (4 + m) (by omega) (by omega) (by rw [hp]; omega))
  rw [if_pos g1, g2, if_neg (by omega), g3, e1]
 ·rw [if_neg e1] at h hl ⊢
  rw [List.append_assoc] at h
  rw [List.length_append] at hl
  obtain ⟨g1, g2, g3⟩ := get_back s a (15 + 16 * m) (4 + m) (by omega) _ h (by omega) (putE_of _ (4 + m) (by omega) (by omega) (by rw [hp]; omega))
  have h2 := ahead_next h
  have hp5 : (2 : Int) ^ (5 : Int).toNat = 32 := rfl
  obtain ⟨k1, k2, k3⟩ := get_back s (a + (putB (15 + 16 * m) (4 + m)).length) e 5 (by omega) R h2 (by omega) (putE_of e 5 (by omega) (by omega) (by rw [hp5]; omega))
  rw [if_pos g1, if_pos g2, g3, if_pos k1, k2, k3, List.length_append, Nat.add_assoc, show k = 0 by omega]
theorem parts_split (c : Rc) (b o r : Nat) (l : List Int) (n N : Nat) (hn : n < N) : ∃ R, partsB c b o r l N = partsB c b o r l n ++ (headB c.m (c.P.getD n 0) (c.E.getD n 0) ++ (numsB (c.P.getD n 0) (c.E.getD n 0) (partN l b o r n) ++ R)) := by
 induction N with
 | zero => omega
 | succ N ih =>
  by_cases e : n = N
  ·subst e
   exact ⟨[], by rw [partsB_succ]; unfold partB; simp⟩
  ·obtain ⟨R, hR⟩ := ih (by omega)
   refine ⟨R ++ partB c.m (c.P.getD N 0) (c.E.getD N 0) (partN l b o r N), ?_⟩
   rw [partsB_succ, hR]
   simp only [List.append_assoc]
theorem parts_back (s : ByteArray) (a : Nat) (c : Rc) (b o r : Nat) (hk : Rok c b o r) (l : List Int) (hlen : l.length = b - r) (hfit : allFit c b o r l (2 ^ o)) (R : List Nat) (h : ahead s a = partsB c b o r l (2 ^ o) ++ R) (hl : a + (partsB c b o r l (2 ^ o)).length <= 8 * s.size) (n : Nat) (hn : n <= 2 ^ o) :
  rdParts s c.m b o r n a = some ⟨l.take (frN b o r n), c.P.take n, c.E.take n, a + (partsB c b o r l n).length⟩ := by
 induction n with
 | zero => rw [frN_zero]; rfl
 | succ n ih =>
  have h1 := ih (by omega)
  obtain ⟨R2, hs⟩ := parts_split c b o r l n (2 ^ o) (by omega)
  have hlt := hl
  rw [hs] at hlt
  simp only [List.length_append] at hlt
  have h2 : ahead s (a + (partsB c b o r l n).length) = headB c.m (c.P.getD n 0) (c.E.getD n 0) ++ (numsB (c.P.getD n 0) (c.E.getD n 0) (partN l b o r n) ++ (R2 ++ R)) := by
   apply ahead_next
   rw [h, hs]
   simp only [List.append_assoc]
  have r1 := head_back s _ c.m _ _ hk.m0 hk.m1 (hk.may n (by omega)) _ h2 (by omega)
  have h3 := ahead_next h2
  have hX := partN_length l hk.cut hlen n (by omega)
  have r2 := nums_back s _ _ _ _ _ h3 (by omega) (hfit n (by omega)) (partN l b o r n).length (Nat.le_refl _)
  rw [List.take_length] at r2
  rw [hX] at r2
  rw [rdParts_some h1 r1 r2, take_part' l b o r n, partsB_succ]
  unfold partB
  have hP := take_snoc c.P n (by rw [hk.lP]; omega)
  have hE := take_snoc c.E n (by rw [hk.lE]; omega)
  rw [hP, hE]
  simp only [List.length_append, Nat.add_assoc]
theorem rdTop_cut {s : ByteArray} {a : Nat} {b r m o : Int} {a1 : Nat} (h : rdTop s a b r = some (m, o, a1)) : cutOk b r o := by
 unfold rdTop at h
 split at h
 ·split at h
  ·rename_i h2
   simp only [Option.some.injEq, Prod.mk.injEq] at h
   rw [<- h.2.1]; exact h2.2
  ·cases h
 ·cases h
theorem decode_all (q : Nat) (s : ByteArray) (hs : s.size <= 1000000000000000000) (a : Nat) (ha : a <= 8 * s.size) (b r : Int) (hok : argOk b r) (w : World) (h : Rd w q s a) :
  Calls Tryz.prog 201 #[.pointer (some ⟨q, 0, none⟩), .int .i64 b, .int .i64 r] w fun en w' => DPost (decP s a b r) (en = .returned (.tuple #[.slice none 0 0, zRice, .int .i64 2]) /\ Stays (only q) w w') (fun c L a2 => ∃ gl gp ge, en = .returned (.tuple #[.slice (some ⟨gl, 0, none⟩) L.length L.length, riceV c (some ⟨gp, 0, none⟩) c.P.length (some ⟨ge, 0, none⟩) c.E.length, .int .i64 0]) /\ IntsBlk w' gl L /\ IntsBlk w' gp c.P /\ IntsBlk w' ge c.E /\ w.heap.size <= gl /\ w.heap.size <= gp /\ w.heap.size <= ge /\ Rd w' q s a2 /\ a2 <= 8 * s.size /\ Stays (only q) w w') := by
 cases ht : rdTop s a b r with
 | none =>
  refine (decode_top q s hs a ha b r hok w h ht).mono fun e w' hh => ?_
  exact DPost.none_ (by unfold decP; rw [ht]) hh
 | some p =>
  obtain ⟨m, o, a1⟩ := p
  obtain ⟨b', r', o', rfl, rfl, rfl, hC⟩ := Cut.of (rdTop_cut ht)
  exact decode_main q s hs a ha b' o' r' hC m a1 ht hok w h
def encR (c : Rc) (b r : Int) (l : List Int) : Bool := decide (chkOk c b r) && fitB c b.toNat c.o.toNat r.toNat l
theorem encR_yes {c : Rc} {b r : Int} {l : List Int} (h : encR c b r l = true) : ∃ b' o' r' : Nat, b = b' /\ r = r' /\ Rok c b' o' r' /\ fitB c b' o' r' l = true := by
 obtain ⟨h1, h2⟩ := Bool.and_eq_true_iff.1 h
 obtain ⟨b', r', o', rfl, rfl, hk⟩ := Rok.of (of_decide_eq_true h1)
 have e : c.o.toNat = o' := by have := hk.ho; omega
 rw [e] at h2
 exact ⟨b', o', r', rfl, rfl, hk, by simpa using h2⟩
def encN (c : Rc) (b r : Int) (l : List Int) : Int := if encR c b r l then 0 else 60
def encL (c : Rc) (b r : Int) (l : List Int) : List Nat := if encR c b r l then encB c b.toNat r.toNat l else []
theorem encB_room (c : Rc) (b o r : Nat) (hk : Rok c b o r) (l : List Int) (hlen : l.length = b - r) (h5 : l.length <= 65535) : (encB c b r l).length <= 1300000000000 := by
 have hot : c.o.toNat = o := by have := hk.ho; omega
 have h1 := parts_room c hk.m1 hk.cut l hlen (2 ^ o) (Nat.le_refl _) h5
 have h2 := putB_short c.m 2 (by omega)
 have h3 := putB_short c.o 4 (by omega)
 unfold encB
 rw [hot]
 simp only [List.length_append]
 omega
theorem encode_all (c : Rc) (l : List Int) (hs : ShX l) (pa : OA) (pc : Nat) (ea : OA) (ec : Nat) (lo : OA) (cap : Nat) (hc : l.length <= cap) (h0 : lo = none -> cap = 0) (p : Nat) (ao : OA) (B : List Nat) (h01 : Bits01 B) (hB : B.length <= 1300000000000) (w : World) (hr : RcAt w c pa ea) (hl : IntsAt w lo l) (hw : WrB w p ao B) (a1 : Apart p ao pa c.P) (a2 : Apart p ao ea c.E) (a3 : Apart p ao lo l) (b r : Int) :
  Calls Tryz.prog 160 #[.pointer (some ⟨p, 0, none⟩), riceV c pa pc ea ec, .int .i64 b, .int .i64 r, .slice lo l.length cap] w fun en w' => en = .returned (.int .i64 (encN c b r l)) /\ ∃ ao', WrB w' p ao' (B ++ encL c b r l) /\ Stays (foot p ao) w w' /\ Moved w.heap.size ao ao' := by
 cases hR : encR c b r l with
 | true =>
  have e1 : encN c b r l = 0 := by unfold encN; rw [hR]; rfl
  have e2 : encL c b r l = encB c b.toNat r.toNat l := by unfold encL; rw [hR]; rfl
  rw [e1, e2]
  obtain ⟨b', o', r', rfl, rfl, hk, hf⟩ := encR_yes hR
  exact encode_ok c l hs pa pc ea ec lo cap hc h0 p ao B h01 hB w hr hl hw a1 a2 a3 b' o' r' hk hf
 | false =>
  have e1 : encN c b r l = 60 := by unfold encN; rw [hR]; rfl
  have e2 : encL c b r l = [] := by unfold encL; rw [hR]; rfl
  rw [e1, e2, List.append_nil]
  have fin : ∀ (e : Ending) (w' : World), e = .returned (.int .i64 60) /\ Lo w w' -> e = .returned (.int .i64 60) /\ ∃ ao', WrB w' p ao' B /\ Stays (foot p ao) w w' /\ Moved w.heap.size ao ao' := fun e w' hh => ⟨hh.1, ao, hw.below hh.2, Stays.of_below hh.2 _, Moved.refl _ _⟩
  by_cases hch : chkOk c b r
  ·obtain ⟨b', r', o', rfl, rfl, hk⟩ := Rok.of hch
   have e : c.o.toNat = o' := by have := hk.ho; omega
   have hf : fitB c b' o' r' l = false := by
    unfold encR at hR
    rw [decide_eq_true hch, e] at hR
    simpa using hR
   exact (encode_fit c l hs pa pc ea ec lo cap hc h0 p ao B h01 hB w hr hl hw b' o' r' hk hf).mono fin
  ·exact (encode_chk c l hs pa pc ea ec lo cap hc h0 p ao B h01 hB w hr hl hw b r hch).mono fin
theorem ahead_01 (s : ByteArray) (a : Nat) : Bits01 (ahead s a) := (sbits_01 _).drop a
theorem ahead_cut (s : ByteArray) (a k : Nat) (h : a + k <= 8 * s.size) : ahead s a = bitsOf (bitsAt s a k) k ++ ahead s (a + k) := by
 have hl : ((ahead s a).take k).length = k := by rw [List.length_take, ahead_length]; omega
 have e : bitsAt s a k = num ((ahead s a).take k) := rfl
 have h1 := bitsOf_num _ ((ahead_01 s a).take k)
 rw [hl] at h1
 rw [e, h1, <- ahead_drop, List.take_append_drop]
theorem get_again (s : ByteArray) (a : Nat) (k : Int) (h : getE s a k = 0) : putE (getV s a k) k = 0 /\ ahead s a = putB (getV s a k) k ++ ahead s (getA s a k) /\ getA s a k = a + (putB (getV s a k) k).length := by
 have hk : 0 <= k /\ k <= 64 /\ a + k.toNat <= 8 * s.size := by
  unfold getE at h
  split at h
  ·cases h
  ·split at h
   ·cases h
   ·omega
 have hv : getV s a k = (bitsAt s a k.toNat : Int) := getV_nat s a k h
 have hlt : getV s a k < 2 ^ k.toNat := (getV_bound s a k).2
 have hA : getA s a k = a + k.toNat := by unfold getA; rw [if_pos h]
 have hB : putB (getV s a k) k = bitsOf (bitsAt s a k.toNat) k.toNat := by
  unfold putB
  rw [if_pos ⟨hk.1, hk.2.1, hlt⟩, hv, Int.toNat_natCast]
 refine ⟨by unfold putE; rw [if_pos ⟨hk.1, hk.2.1, hlt⟩], ?_, ?_⟩
 ·rw [hB, hA]; exact ahead_cut s a k.toNat hk.2.2
 ·rw [hB, hA, bitsOf_length]
theorem asU_sgn (u k : Nat) (h1 : 1 <= k) (h2 : k <= 64) (hu : u < 2 ^ k) : asU (sgn u k) % 2 ^ k = u /\ -2 ^ (k - 1) <= sgn u k /\ sgn u k < 2 ^ (k - 1) := by
 obtain ⟨H, hH⟩ : ∃ H, H = (2 : Nat) ^ (k - 1) := ⟨_, rfl⟩
 have hk : (2 : Nat) ^ k = 2 * H := by rw [hH, <- Nat.pow_succ', show (k - 1).succ = k from by omega]
 have hi : (2 : Int) ^ (k - 1) = (H : Int) := by rw [hH]; simp
 have hki : (2 : Int) ^ k = ((2 * H : Nat) : Int) := by rw [<- hk]; simp
 have hH0 : 0 < H := by rw [hH]; exact Nat.two_pow_pos _
 have hdvd : (((2 * H : Nat) : Int)) ∣ 18446744073709551616 := by
  refine ⟨((2 ^ (64 - k) : Nat) : Int), ?_⟩
  have e : (2 * H) * 2 ^ (64 - k) = 18446744073709551616 := by rw [<- hk, <- Nat.pow_add, show k + (64 - k) = 64 from by omega]
  rw [<- Int.natCast_mul, e]
  rfl
 have hm : ∀ n : Int, ((asU n % (2 * H) : Nat) : Int) = n % ((2 * H : Nat) : Int) := fun n => by
  rw [Int.natCast_emod]
  have e : (asU n : Int) = n % 18446744073709551616 := by unfold asU; omega
  rw [e, Int.emod_emod_of_dvd n hdvd]
 rw [hk] at hu
 have h3 := hm (sgn u k)
 have hs : sgn u k = if H <= u then (u : Int) - ((2 * H : Nat) : Int) else (u : Int) := by unfold sgn; rw [<- hH, hki]
 rw [hi, hk]
 rw [hs] at h3 ⊢
 by_cases c : H <= u
 ·rw [if_pos c] at h3 ⊢
  have e : ((u : Int) - ((2 * H : Nat) : Int)) % ((2 * H : Nat) : Int) = u := by
   rw [Int.sub_emod_right]
   exact Int.emod_eq_of_lt (by omega) (by omega)
  rw [e] at h3
  refine ⟨by omega, by omega, by omega⟩
 ·rw [if_neg c] at h3 ⊢
  have e : (u : Int) % ((2 * H : Nat) : Int) = u := Int.emod_eq_of_lt (by omega) (by omega)
  rw [e] at h3
  refine ⟨by omega, by omega, by omega⟩
theorem sig_again (s : ByteArray) (a : Nat) (k : Int) (h : sgnE s a k = 0) : sigE (sgnV s a k) k = 0 /\ ahead s a = sigB (sgnV s a k) k ++ ahead s (sgnA s a k) /\ sgnA s a k = a + (sigB (sgnV s a k) k).length := by
 have hk : 1 <= k /\ k <= 64 /\ a + k.toNat <= 8 * s.size := by
  unfold sgnE at h
  split at h
  ·cases h
  ·split at h
   ·cases h
   ·omega
 have hv : sgnV s a k = sgn (bitsAt s a k.toNat) k.toNat := by unfold sgnV; rw [if_pos h]
 have hA : sgnA s a k = a + k.toNat := by unfold sgnA; rw [if_pos h]
 obtain ⟨g1, g2, g3⟩ := asU_sgn (bitsAt s a k.toNat) k.toNat (by omega) (by omega) (bitsAt_lt s a k.toNat)
 rw [<- hv] at g1 g2 g3
 have hB : sigB (sgnV s a k) k = bitsOf (bitsAt s a k.toNat) k.toNat := by
  unfold sigB
  rw [if_pos ⟨hk.1, hk.2.1, g2, g3⟩, <- bitsOf_mod _ k.toNat k.toNat (Nat.le_refl _), g1]
 refine ⟨by unfold sigE; rw [if_pos ⟨hk.1, hk.2.1, g2, g3⟩], ?_, ?_⟩
 ·rw [hB, hA]; exact ahead_cut s a k.toNat hk.2.2
 ·rw [hB, hA, bitsOf_length]
theorem lead_split (L : List Nat) (h : Bits01 L) (hl : lead L < L.length) : L = List.replicate (lead L) 0 ++ [1] ++ L.drop (lead L + 1) := by
 induction L with
 | nil => simp at hl
 | cons x t ih =>
  have hx := h x (by simp)
  rw [lead_cons] at hl ⊢
  by_cases e : x = 0
  ·rw [if_pos e] at hl ⊢
   have ih2 := ih (fun b hb => h b (by simp [hb])) (by simp at hl; omega)
   rw [Nat.add_comm 1, List.replicate_succ, e]
   show 0 :: t = 0 :: (List.replicate (lead t) 0 ++ [1] ++ t.drop (lead t + 1))
   rw [<- ih2]
  ·rw [if_neg e] at hl ⊢
   have e1 : x = 1 := by omega
   rw [e1]; rfl
theorem una_again (s : ByteArray) (a : Nat) (h : unaE s a = 0) : unrE (unaV s a) = 0 /\ ahead s a = unrB (unaV s a) ++ ahead s (unaA s a) /\ unaA s a = a + (unrB (unaV s a)).length := by
 have hv : unaV s a = (lead (ahead s a) : Int) := by unfold unaV; rw [if_pos h]
 have hA : unaA s a = a + lead (ahead s a) + 1 := by unfold unaA; rw [if_pos h]
 have hk : lead (ahead s a) <= 16777216 /\ lead (ahead s a) < (ahead s a).length := by
  have hle := lead_le (ahead s a)
  rw [ahead_length] at hle ⊢
  unfold unaE at h
  split at h
  ·cases h
  ·split at h
   ·cases h
   ·omega
 have hB : unrB (unaV s a) = List.replicate (lead (ahead s a)) 0 ++ [1] := by
  unfold unrB; rw [hv, if_pos (by omega), Int.toNat_natCast]
 refine ⟨by unfold unrE; rw [hv, if_pos (by omega)], ?_, ?_⟩
 ·rw [hB, hA, Nat.add_assoc, <- ahead_drop]
  exact lead_split _ (ahead_01 s a) hk.2
 ·rw [hB, hA, List.length_append, List.length_replicate, List.length_singleton, Nat.add_assoc]
theorem fold_unfold (u : Nat) : foldN (unfoldN u) = u := by
 unfold unfoldN
 by_cases h : u % 2 = 0
 ·rw [if_pos h]
  have e := foldN_pos ((u / 2 : Nat) : Int) (by omega)
  omega
 ·rw [if_neg h]
  have e := foldN_neg (-((u / 2 : Nat) : Int) - 1) (by omega)
  omega
theorem ric_again (s : ByteArray) (a : Nat) (k : Int) (h : ricE s a k = 0) : rcwE (ricV s a k) k = 0 /\ ahead s a = rcwB (ricV s a k) k ++ ahead s (ricA s a k) /\ ricA s a k = a + (rcwB (ricV s a k) k).length := by
 have hk : 0 <= k /\ k <= 30 /\ unaE s a = 0 /\ a + lead (ahead s a) + 1 + k.toNat <= 8 * s.size := by
  unfold ricE at h
  split at h
  ·cases h
  ·split at h
   ·split at h
    ·cases h
    ·exact ⟨by omega, by omega, by assumption, by omega⟩
   ·rename_i h2; exact absurd h h2
 obtain ⟨_, hu, hua⟩ := una_again s a hk.2.2.1
 have hz : lead (ahead s a) <= 16777216 := by
  have := hk.2.2.1
  unfold unaE at this
  split at this
  ·cases this
  ·omega
 have huv : unaV s a = (lead (ahead s a) : Int) := by unfold unaV; rw [if_pos hk.2.2.1]
 have huA : unaA s a = a + lead (ahead s a) + 1 := by unfold unaA; rw [if_pos hk.2.2.1]
 rw [huv, huA] at hu
 have hB0 : unrB (lead (ahead s a) : Int) = List.replicate (lead (ahead s a)) 0 ++ [1] := by
  unfold unrB; rw [if_pos (by omega), Int.toNat_natCast]
 rw [hB0] at hu
 have hcut := ahead_cut s (a + lead (ahead s a) + 1) k.toNat hk.2.2.2
 have hv : ricV s a k = unfoldN (lead (ahead s a) * 2 ^ k.toNat + bitsAt s (a + lead (ahead s a) + 1) k.toNat) := by unfold ricV; rw [if_pos h]
 have hA : ricA s a k = a + lead (ahead s a) + 1 + k.toNat := by unfold ricA; rw [if_pos h]
 have hm := bitsAt_lt s (a + lead (ahead s a) + 1) k.toNat
 have hf : foldN (ricV s a k) = lead (ahead s a) * 2 ^ k.toNat + bitsAt s (a + lead (ahead s a) + 1) k.toNat := by rw [hv, fold_unfold]
 have hq : foldN (ricV s a k) / 2 ^ k.toNat = lead (ahead s a) := by
  rw [hf, Nat.mul_comm, Nat.mul_add_div (Nat.two_pow_pos _), Nat.div_eq_of_lt hm, Nat.add_zero]
 have hr : bitsOf (foldN (ricV s a k)) k.toNat = bitsOf (bitsAt s (a + lead (ahead s a) + 1) k.toNat) k.toNat := by
  rw [<- bitsOf_mod _ k.toNat k.toNat (Nat.le_refl _), hf, Nat.mul_comm, Nat.mul_add_mod, Nat.mod_eq_of_lt hm]
 have hB : rcwB (ricV s a k) k = List.replicate (lead (ahead s a)) 0 ++ [1] ++ bitsOf (bitsAt s (a + lead (ahead s a) + 1) k.toNat) k.toNat := by
  unfold rcwB; rw [hq, if_pos ⟨hk.1, hk.2.1, hz⟩, hr]
 refine ⟨by unfold rcwE; rw [hq, if_pos ⟨hk.1, hk.2.1, hz⟩], ?_, ?_⟩
 ·rw [hB, hA, List.append_assoc, <- hcut]; exact hu
 ·rw [hB, hA]; simp only [List.length_append, List.length_replicate, List.length_singleton, bitsOf_length]; omega
theorem one_again (s : ByteArray) (a : Nat) (k e : Int) (h : rdE s a k e = 0) : fitE k e (rdV s a k e) /\ ahead s a = oneB k e (rdV s a k e) ++ ahead s (rdA s a k e) /\ rdA s a k e = a + (oneB k e (rdV s a k e)).length := by
 unfold rdE at h
 unfold fitE oneB rdV rdA
 by_cases e1 : e = -1
 ·rw [if_pos e1] at h
  simp only [if_pos e1]
  exact ric_again s a k h
 ·rw [if_neg e1] at h
  simp only [if_neg e1]
  by_cases e2 : e = 0
  ·simp only [if_pos e2]
   exact ⟨trivial, rfl, rfl⟩
  ·rw [if_neg e2] at h
   simp only [if_neg e2]
   exact sig_again s a e h
theorem nums_again {s : ByteArray} {k e : Int} {n a a1 : Nat} {X : List Int} (h : rdAll s k e n a = some (X, a1)) : (∀ x ∈ X, fitE k e x) /\ ahead s a = numsB k e X ++ ahead s a1 /\ a1 = a + (numsB k e X).length := by
 induction n generalizing X a1 with
 | zero => unfold rdAll at h; cases h; exact ⟨fun x hx => (by cases hx), rfl, rfl⟩
 | succ n ih =>
  unfold rdAll at h
  cases hq : rdAll s k e n a with
  | none => rw [hq] at h; cases h
  | some p =>
   obtain ⟨Y, a2⟩ := p
   rw [hq] at h
   simp only at h
   split at h
   ·rename_i h0
    cases h
    obtain ⟨i1, i2, i3⟩ := ih hq
    obtain ⟨o1, o2, o3⟩ := one_again s a2 k e h0
    refine ⟨fun x hx => ?_, ?_, ?_⟩
    ·rcases List.mem_append.1 hx with hx | hx
     ·exact i1 x hx
     ·rw [List.mem_singleton] at hx; rw [hx]; exact o1
    ·rw [numsB_snoc, List.append_assoc, <- o2, <- i2]
    ·rw [numsB_snoc, List.length_append, o3, i3, Nat.add_assoc]
   ·cases h
theorem head_again {s : ByteArray} {a : Nat} {m k e : Int} {a1 : Nat} (h : rdHead s a m = some (k, e, a1)) (h0 : 0 <= m) (h1 : m <= 1) : ahead s a = headB m k e ++ ahead s a1 /\ a1 = a + (headB m k e).length := by
 have hm := rdHead_may h0 h1 h
 unfold rdHead at h
 split at h
 ·rename_i g1
  obtain ⟨_, p2, p3⟩ := get_again s a (4 + m) g1
  split at h
  ·rename_i g2
   split at h
   ·rename_i g3
    obtain ⟨_, q2, q3⟩ := get_again s (getA s a (4 + m)) 5 g3
    cases h
    have h5 := getV_5 s (getA s a (4 + m))
    unfold headB
    rw [if_neg (by omega)]
    rw [g2] at p2 p3
    refine ⟨?_, ?_⟩
    ·rw [List.append_assoc, <- q2, <- p2]
    ·rw [List.length_append, q3, <- Nat.add_assoc, <- p3]
   ·cases h
  ·cases h
   unfold headB
   rw [if_pos rfl]
   exact ⟨p2, p3⟩
 ·cases h
theorem partN_pre (L X : List Int) (b o r i j : Nat) (hj : j < i) (hL : L.length = frN b o r i) : partN (L ++ X) b o r j = partN L b o r j := by
 unfold partN
 have h1 := frN_le b o r (j + 1) i (by omega)
 have h2 := frN_mono b o r j
 rw [List.drop_append_of_le_length (by omega), List.take_append_of_le_length (by rw [List.length_drop]; omega)]
theorem partN_last (L X : List Int) (b o r i : Nat) (hL : L.length = frN b o r i) (hX : X.length = frN b o r (i + 1) - frN b o r i) : partN (L ++ X) b o r i = X := by
 unfold partN
 rw [<- hL, List.drop_left, hL, <- hX, List.take_length]
theorem getD_pre (P : List Int) (k : Int) (j i : Nat) (hP : P.length = i) (hj : j < i) : (P ++ [k]).getD j 0 = P.getD j 0 := by
 rw [List.getD_eq_getElem?_getD, List.getD_eq_getElem?_getD, List.getElem?_append_left (by omega)]
theorem getD_last (P : List Int) (k : Int) (i : Nat) (hP : P.length = i) : (P ++ [k]).getD i 0 = k := by
 rw [List.getD_eq_getElem?_getD, List.getElem?_append_right (by omega), hP, Nat.sub_self]; rfl
theorem flatMap_congr' {α β : Type} (l : List α) (f g : α -> List β) (h : ∀ x ∈ l, f x = g x) : l.flatMap f = l.flatMap g := by
 induction l with
 | nil => rfl
 | cons x t ih => rw [List.flatMap_cons, List.flatMap_cons, h x (by simp), ih (fun y hy => h y (by simp [hy]))]
theorem parts_again {s : ByteArray} {m : Int} {b o r i a : Nat} {d : Dec} (h0 : 0 <= m) (h1 : m <= 1) (h : rdParts s m b o r i a = some d) (q : Int) :
  (∀ j, j < i -> mayOk m (d.P.getD j 0) (d.E.getD j 0) /\ ∀ x ∈ partN d.L b o r j, fitE (d.P.getD j 0) (d.E.getD j 0) x) /\ ahead s a = partsB ⟨m, q, d.P, d.E⟩ b o r d.L i ++ ahead s d.a /\ d.a = a + (partsB ⟨m, q, d.P, d.E⟩ b o r d.L i).length := by
 induction i generalizing d with
 | zero => unfold rdParts at h; cases h; exact ⟨fun j hj => absurd hj (Nat.not_lt_zero _), rfl, rfl⟩
 | succ i ih =>
  obtain ⟨d0, k, e, a1, X, g1, g2, g3, g4, g5, g6⟩ := rdParts_inv h
  obtain ⟨i1, i2, i3⟩ := ih g1
  obtain ⟨l1, l2, l3⟩ := rdParts_len g1
  have hX := rdAll_len g3
  obtain ⟨n1, n2, n3⟩ := nums_again g3
  obtain ⟨k1, k2⟩ := head_again g2 h0 h1
  have hmay := rdHead_may h0 h1 g2
  have hB : partsB ⟨m, q, d.P, d.E⟩ b o r d.L i = partsB ⟨m, q, d0.P, d0.E⟩ b o r d0.L i := by
   unfold partsB
   refine flatMap_congr' _ _ _ (fun j hj => ?_)
   have hj' := List.mem_range.1 hj
   show partB m (d.P.getD j 0) (d.E.getD j 0) (partN d.L b o r j) = partB m (d0.P.getD j 0) (d0.E.getD j 0) (partN d0.L b o r j)
   rw [g4, g5, g6, getD_pre _ _ j i l2 hj', getD_pre _ _ j i l3 hj', partN_pre _ _ b o r i j hj' l1]
  have hS : partsB ⟨m, q, d.P, d.E⟩ b o r d.L (i + 1) = partsB ⟨m, q, d0.P, d0.E⟩ b o r d0.L i ++ (headB m k e ++ numsB k e X) := by
   rw [partsB_succ, hB]
   show _ ++ partB m (d.P.getD i 0) (d.E.getD i 0) (partN d.L b o r i) = _
   rw [g4, g5, g6, getD_last _ _ i l2, getD_last _ _ i l3, partN_last _ _ b o r i l1 hX]
   rfl
  refine ⟨fun j hj => ?_, ?_, ?_⟩
  ·rw [g4, g5, g6]
   by_cases ej : j = i
   ·subst ej
    rw [getD_last _ _ j l2, getD_last _ _ j l3, partN_last _ _ b o r j l1 hX]
    exact ⟨hmay, n1⟩
   ·rw [getD_pre _ _ j i l2 (by omega), getD_pre _ _ j i l3 (by omega), partN_pre _ _ b o r i j (by omega) l1]
    exact i1 j (by omega)
  ·rw [hS, List.append_assoc, List.append_assoc, <- n2, <- k1, <- i2]
  ·rw [hS]
   simp only [List.length_append]
   omega
theorem dec_again {s : ByteArray} {a : Nat} {b r : Int} {c : Rc} {l : List Int} {a1 : Nat} (h : decP s a b r = some (c, l, a1)) :
  encR c b r l = true /\ ahead s a = encB c b.toNat r.toNat l ++ ahead s a1 /\ a1 = a + (encB c b.toNat r.toNat l).length := by
 unfold decP at h
 cases ht : rdTop s a b r with
 | none => rw [ht] at h; cases h
 | some p =>
  obtain ⟨m, o, a0⟩ := p
  rw [ht] at h
  simp only at h
  cases hp : rdParts s m b.toNat o.toNat r.toNat (2 ^ o.toNat) a0 with
  | none => rw [hp] at h; cases h
  | some d =>
   rw [hp] at h
   simp only [Option.some.injEq, Prod.mk.injEq] at h
   obtain ⟨rfl, rfl, rfl⟩ := h
   have hcut := rdTop_cut ht
   unfold rdTop at ht
   split at ht
   ·rename_i t1
    split at ht
    ·rename_i t2
     simp only [Option.some.injEq, Prod.mk.injEq] at ht
     obtain ⟨t3, t4, t5⟩ := ht
     obtain ⟨_, p2, p3⟩ := get_again s a 2 t1.1
     obtain ⟨_, q2, q3⟩ := get_again s (getA s a 2) 4 t2.1
     have v2 := getV_2 s a
     rw [t3] at p2 p3 v2 t1
     rw [t4] at q2 q3
     rw [t5] at q2 q3
     obtain ⟨z1, z2, z3⟩ := parts_again v2.1 t1.2 hp o
     obtain ⟨l1, l2, l3⟩ := rdParts_len hp
     have hchk : chkOk ⟨m, o, d.P, d.E⟩ b r := ⟨⟨v2.1, t1.2⟩, hcut, l2, l3, fun j hj => (z1 j hj).1⟩
     obtain ⟨b', r', o', eb, er, eo, hC⟩ := Cut.of hcut
     have hfit : fitB ⟨m, o, d.P, d.E⟩ b.toNat o.toNat r.toNat d.L = true := by
      refine fitB_yes ⟨?_, fun j hj => (z1 j hj).2⟩
      rw [l1, eb, er, eo]
      simp only [Int.toNat_natCast]
      exact hC.total
     refine ⟨?_, ?_, ?_⟩
     ·unfold encR
      rw [decide_eq_true hchk]
      exact hfit
     ·unfold encB
      rw [List.append_assoc, List.append_assoc, <- z2, <- q2, <- p2]
     ·unfold encB
      simp only [List.length_append]
      omega
    ·cases ht
   ·cases ht
def foreS (C l : List Int) (a : Nat) : Nat -> Int
 | 0 => 0
 | i + 1 => wrap64 (foreS C l a i + wrap64 (C.getD i 0 * l.getD (a - 1 - i) 0))
def foreN (C : List Int) (sh : Nat) (l : List Int) (a : Nat) : Int := foreS C l a C.length / 2 ^ sh
def leftN (C : List Int) (sh : Nat) (l : List Int) : Nat -> List Int
 | 0 => []
 | n + 1 => leftN C sh l n ++ [wrap64 (l.getD (C.length + n) 0 - foreN C sh l (C.length + n))]
def wholeN (C : List Int) (sh : Nat) (warm l : List Int) : Nat -> List Int
 | 0 => warm
 | n + 1 => wholeN C sh warm l n ++ [wrap64 (l.getD n 0 + foreN C sh (wholeN C sh warm l n) (warm.length + n))]
abbrev Rng (l : List Int) : Prop := ∀ n ∈ l, -9223372036854775808 <= n /\ n <= 9223372036854775807
theorem wrap_rng (n : Int) : -9223372036854775808 <= wrap64 n /\ wrap64 n <= 9223372036854775807 := by unfold wrap64; omega
theorem foreS_rng (C l : List Int) (a k : Nat) : -9223372036854775808 <= foreS C l a k /\ foreS C l a k <= 9223372036854775807 := by
 cases k with
 | zero => unfold foreS; omega
 | succ k => exact wrap_rng _
theorem shr_rng (x : Int) (sh : Nat) (h : -9223372036854775808 <= x /\ x <= 9223372036854775807) : -9223372036854775808 <= x / 2 ^ sh /\ x / 2 ^ sh <= 9223372036854775807 := by
 have hp : (1 : Int) <= 2 ^ sh := by
  have := Nat.one_le_two_pow (n := sh)
  have e : ((2 ^ sh : Nat) : Int) = (2 : Int) ^ sh := by simp
  omega
 generalize (2 : Int) ^ sh = P at *
 refine ⟨?_, ?_⟩
 ·refine Int.le_ediv_of_mul_le (by omega) ?_
  have : (-9223372036854775808 : Int) * P <= -9223372036854775808 * 1 := Int.mul_le_mul_of_nonpos_left (by omega) (by omega)
  omega
 ·by_cases h0 : 0 <= x
  ·have := Int.ediv_le_self P h0; omega
  ·have := Int.ediv_neg_of_neg_of_pos (show x < 0 by omega) (show (0 : Int) < P by omega); omega
theorem foreN_rng (C : List Int) (sh : Nat) (l : List Int) (a : Nat) : -9223372036854775808 <= foreN C sh l a /\ foreN C sh l a <= 9223372036854775807 := shr_rng _ _ (foreS_rng C l a C.length)
theorem leftN_len (C : List Int) (sh : Nat) (l : List Int) (n : Nat) : (leftN C sh l n).length = n := by
 induction n with
 | zero => rfl
 | succ n ih => unfold leftN; rw [List.length_append, ih]; rfl
theorem leftN_rng (C : List Int) (sh : Nat) (l : List Int) (n : Nat) : Rng (leftN C sh l n) := by
 induction n with
 | zero => intro x hx; cases hx
 | succ n ih =>
  intro x hx
  rcases List.mem_append.1 hx with hx | hx
  ·exact ih x hx
  ·rw [List.mem_singleton] at hx; rw [hx]; exact wrap_rng _
theorem wholeN_len (C : List Int) (sh : Nat) (warm l : List Int) (n : Nat) : (wholeN C sh warm l n).length = warm.length + n := by
 induction n with
 | zero => rfl
 | succ n ih => unfold wholeN; rw [List.length_append, ih]; rfl
theorem wholeN_rng (C : List Int) (sh : Nat) (warm l : List Int) (hw : Rng warm) (n : Nat) : Rng (wholeN C sh warm l n) := by
 induction n with
 | zero => exact hw
 | succ n ih =>
  intro x hx
  rcases List.mem_append.1 hx with hx | hx
  ·exact ih x hx
  ·rw [List.mem_singleton] at hx; rw [hx]; exact wrap_rng _
theorem getD_app_left (a b : List Int) (i : Nat) (h : i < a.length) : (a ++ b).getD i 0 = a.getD i 0 := by
 rw [List.getD_eq_getElem?_getD, List.getD_eq_getElem?_getD, List.getElem?_append_left h]
theorem getD_app_len (a : List Int) (x : Int) : (a ++ [x]).getD a.length 0 = x := by
 rw [List.getD_eq_getElem?_getD, List.getElem?_append_right (Nat.le_refl _), Nat.sub_self]; rfl
theorem leftN_at (C : List Int) (sh : Nat) (l : List Int) (n i : Nat) (h : i < n) : (leftN C sh l n).getD i 0 = wrap64 (l.getD (C.length + i) 0 - foreN C sh l (C.length + i)) := by
 induction n with
 | zero => omega
 | succ n ih =>
  have hl := leftN_len C sh l n
  unfold leftN
  by_cases e : i = n
  ·subst e
   have h2 := getD_app_len (leftN C sh l i) (wrap64 (l.getD (C.length + i) 0 - foreN C sh l (C.length + i)))
   rw [hl] at h2; exact h2
  ·rw [getD_app_left _ _ _ (by omega)]; exact ih (by omega)
theorem foreS_congr (C l m : List Int) (a k : Nat) (ha : k <= a) (h : ∀ j, j < a -> l.getD j 0 = m.getD j 0) : foreS C l a k = foreS C m a k := by
 induction k with
 | zero => rfl
 | succ k ih => unfold foreS; rw [ih (by omega), h (a - 1 - k) (by omega)]
theorem foreN_congr (C : List Int) (sh : Nat) (l m : List Int) (a : Nat) (ha : C.length <= a) (h : ∀ j, j < a -> l.getD j 0 = m.getD j 0) : foreN C sh l a = foreN C sh m a := by
 unfold foreN; rw [foreS_congr C l m a _ ha h]
theorem take_next (l : List Int) (n : Nat) (h : n < l.length) : l.take n ++ [l.getD n 0] = l.take (n + 1) := by
 rw [List.take_add_one, List.getD_eq_getElem?_getD, List.getElem?_eq_getElem h]; rfl
theorem getD_take (l : List Int) (n j : Nat) (h : j < n) : (l.take n).getD j 0 = l.getD j 0 := by
 rw [List.getD_eq_getElem?_getD, List.getD_eq_getElem?_getD, List.getElem?_take, if_pos h]
theorem rng_at (l : List Int) (h : Rng l) (n : Nat) : -9223372036854775808 <= l.getD n 0 /\ l.getD n 0 <= 9223372036854775807 := by
 rw [List.getD_eq_getElem?_getD]
 cases e : l[n]? with
 | none => simp
 | some x => exact h x (List.mem_of_getElem? e)
theorem whole_left (C : List Int) (sh : Nat) (l : List Int) (hC : C.length <= l.length) (hr : Rng l) (N n : Nat) (hN : N = l.length - C.length) (hn : n <= N) : wholeN C sh (l.take C.length) (leftN C sh l N) n = l.take (C.length + n) := by
 have hw : (l.take C.length).length = C.length := by rw [List.length_take]; omega
 induction n with
 | zero => rfl
 | succ n ih =>
  have h1 := ih (by omega)
  have h2 := leftN_at C sh l N n (by omega)
  have h3 := foreN_congr C sh (l.take (C.length + n)) l (C.length + n) (by omega) (fun j hj => getD_take l _ j hj)
  have h4 := rng_at l hr (C.length + n)
  have h5 := foreN_rng C sh l (C.length + n)
  unfold wholeN
  rw [h1, h2, hw, h3]
  have e : wrap64 (wrap64 (l.getD (C.length + n) 0 - foreN C sh l (C.length + n)) + foreN C sh l (C.length + n)) = l.getD (C.length + n) 0 := by
   generalize l.getD (C.length + n) 0 = x at *
   generalize foreN C sh l (C.length + n) = f at *
   unfold wrap64; omega
  rw [e, take_next l _ (by omega), Nat.add_assoc]
theorem back9 (C : List Int) (sh : Nat) (l : List Int) (hC : C.length <= l.length) (hr : Rng l) : wholeN C sh (l.take C.length) (leftN C sh l (l.length - C.length)) (l.length - C.length) = l := by
 rw [whole_left C sh l hC hr _ _ rfl (Nat.le_refl _), List.take_of_length_le (by omega)]
def wF (o : Nat) : List Int := if o = 0 then [] else if o = 1 then [1] else if o = 2 then [2, -1] else if o = 3 then [3, -3, 1] else [4, -6, 4, -1]
theorem wF_len (o : Nat) (h : o <= 4) : (wF o).length = o := by
 rcases (show o = 0 ∨ o = 1 ∨ o = 2 ∨ o = 3 ∨ o = 4 by omega) with rfl | rfl | rfl | rfl | rfl <;> rfl
def dvB (l : List Int) (k : Nat) : Bool := l.all fun n => n % 2 ^ k == 0
theorem dvB_iff (l : List Int) (k : Nat) : dvB l k = true ↔ ∀ n ∈ l, n % 2 ^ k = 0 := by unfold dvB; simp
def shrL (l : List Int) (k : Nat) : List Int := l.map fun n => n / 2 ^ k
def shlL (l : List Int) (k : Nat) : List Int := l.map fun n => wrap64 (n * 2 ^ k)
theorem shl_shr (l : List Int) (k : Nat) (hr : Rng l) (h : dvB l k = true) : shlL (shrL l k) k = l := by
 rw [dvB_iff] at h
 unfold shlL shrL
 rw [List.map_map]
 have e : ∀ n ∈ l, ((fun n => wrap64 (n * 2 ^ k)) ∘ fun n => n / 2 ^ k) n = n := fun n hn => by
  show wrap64 (n / 2 ^ k * 2 ^ k) = n
  rw [Int.ediv_mul_cancel (Int.dvd_of_emod_eq_zero (h n hn))]
  have := hr n hn
  unfold wrap64; omega
 rw [List.map_congr_left e, List.map_id']
def stP (m : Nat) (p q : Int) : Int := if m = 2 then p - q else if m = 3 then (p + q) / 2 else p
def stQ (m : Nat) (p q : Int) : Int := if m = 1 then p - q else if m = 3 then p - q else q
def unP (m : Nat) (p q : Int) : Int := if m = 2 then p + q else if m = 3 then (p * 2 + q % 2 + q) / 2 else p
def unQ (m : Nat) (p q : Int) : Int := if m = 1 then p - q else if m = 3 then (p * 2 + q % 2 - q) / 2 else q
theorem un_st (m : Nat) (p q : Int) : unP m (stP m p q) (stQ m p q) = p /\ unQ m (stP m p q) (stQ m p q) = q := by
 by_cases h1 : m = 1
 ·subst h1; exact ⟨rfl, by show p - (p - q) = q; omega⟩
 ·by_cases h2 : m = 2
  ·subst h2; exact ⟨by show (p - q) + q = p; omega, rfl⟩
  ·by_cases h3 : m = 3
   ·subst h3; exact ⟨by show ((p + q) / 2 * 2 + (p - q) % 2 + (p - q)) / 2 = p; omega, by show ((p + q) / 2 * 2 + (p - q) % 2 - (p - q)) / 2 = q; omega⟩
   ·unfold unP unQ stP stQ; rw [if_neg h2, if_neg h3, if_neg h2, if_neg h3, if_neg h1, if_neg h3, if_neg h1, if_neg h3]; exact ⟨rfl, rfl⟩
def zipN (f : Int -> Int -> Int) (a b : List Int) : Nat -> List Int
 | 0 => []
 | n + 1 => zipN f a b n ++ [f (a.getD n 0) (b.getD n 0)]
theorem zipN_len (f : Int -> Int -> Int) (a b : List Int) (n : Nat) : (zipN f a b n).length = n := by
 induction n with
 | zero => rfl
 | succ n ih => unfold zipN; rw [List.length_append, ih]; rfl
theorem zipN_at (f : Int -> Int -> Int) (a b : List Int) (n i : Nat) (h : i < n) : (zipN f a b n).getD i 0 = f (a.getD i 0) (b.getD i 0) := by
 induction n with
 | zero => omega
 | succ n ih =>
  have hl := zipN_len f a b n
  unfold zipN
  by_cases e : i = n
  ·subst e
   have h2 := getD_app_len (zipN f a b i) (f (a.getD i 0) (b.getD i 0))
   rw [hl] at h2; exact h2
  ·rw [getD_app_left _ _ _ (by omega)]; exact ih (by omega)
theorem zipN_fst (f : Int -> Int -> Int) (a b : List Int) (n : Nat) (h : n <= a.length) (hf : ∀ i, i < n -> f (a.getD i 0) (b.getD i 0) = a.getD i 0) : zipN f a b n = a.take n := by
 induction n with
 | zero => rfl
 | succ n ih => unfold zipN; rw [ih (by omega) (fun i hi => hf i (by omega)), hf n (by omega), take_next a n (by omega)]
theorem zipN_is (f : Int -> Int -> Int) (a b c : List Int) (n : Nat) (h : n <= c.length) (hf : ∀ i, i < n -> f (a.getD i 0) (b.getD i 0) = c.getD i 0) : zipN f a b n = c.take n := by
 induction n with
 | zero => rfl
 | succ n ih => unfold zipN; rw [ih (by omega) (fun i hi => hf i (by omega)), hf n (by omega), take_next c n (by omega)]
theorem stereo_back (m : Nat) (a b : List Int) (hl : a.length = b.length) :
  zipN (unP m) (zipN (stP m) a b a.length) (zipN (stQ m) a b a.length) a.length = a /\ zipN (unQ m) (zipN (stP m) a b a.length) (zipN (stQ m) a b a.length) a.length = b := by
 have e1 := zipN_is (unP m) (zipN (stP m) a b a.length) (zipN (stQ m) a b a.length) a a.length (Nat.le_refl _) (fun i hi => by rw [zipN_at _ _ _ _ _ hi, zipN_at _ _ _ _ _ hi]; exact (un_st m _ _).1)
 have e2 := zipN_is (unQ m) (zipN (stP m) a b a.length) (zipN (stQ m) a b a.length) b a.length (by omega) (fun i hi => by rw [zipN_at _ _ _ _ _ hi, zipN_at _ _ _ _ _ hi]; exact (un_st m _ _).2)
 rw [e1, e2, List.take_of_length_le (Nat.le_refl _), List.take_of_length_le (by omega)]
 exact ⟨rfl, rfl⟩
def inB (l : List Int) (M : Int) : Bool := l.all fun n => decide (-M <= n) && decide (n <= M)
theorem inB_iff (l : List Int) (M : Int) : inB l M = true ↔ ∀ n ∈ l, -M <= n /\ n <= M := by unfold inB; simp
end Go.Proofs.YtfpfabmbipmipaaGreatDoor
