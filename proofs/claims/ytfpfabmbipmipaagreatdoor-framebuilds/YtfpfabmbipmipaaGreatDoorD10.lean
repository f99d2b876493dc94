/- Own text. -/
import Derived.Test.YtfpfabmbipmipaaGreatDoorD9
import Derived.RowKit
set_option linter.unusedSimpArgs false
set_option linter.unusedVariables false
set_option maxRecDepth 20000
set_option maxHeartbeats 12800000
namespace Go.Proofs.YtfpfabmbipmipaaGreatDoor
open Go.RowKit
structure DS (q : Nat) (s : ByteArray) (k gp ge N : Nat) (m o : Int) (P E : List Int) (a : Nat) (w : World) : Prop where
 rd : Rd w q s a
 bk : w.heap[k]? = some (.cells #[.int .i64 m, .int .i64 o, .slice (some ⟨gp, 0, none⟩) N N, .slice (some ⟨ge, 0, none⟩) N N] 65 (0, 0))
 bp : IntsBlk w gp P
 be : IntsBlk w ge E
 lp : P.length = N
 le : E.length = N
 n32 : N <= 32768
 al : a <= 8 * s.size
def S3 (q gp ge : Nat) (b : Nat) : Prop := b = q ∨ b = gp ∨ b = ge
section
variable {q : Nat} {s : ByteArray} {k gp ge N : Nat} {m o : Int} {P E : List Int} {a a' : Nat} {w w' : World}
theorem Rd.other (h : Rd w q s a) (p : Addr) (u : Value) (hp : p.block ≠ q) : Rd (w.setCell p u) q s a := by
 unfold Rd; rw [Below.heap_setCell w p u q (fun e => hp e.symm)]; exact h
end
def S2 (q gl : Nat) (b : Nat) : Prop := b = q ∨ b = gl
theorem set_mid (A X C : List Int) (z : Nat) (v : Int) (hz : 0 < z) : (A ++ X ++ List.replicate z 0 ++ C).set (A.length + X.length) v = A ++ (X ++ [v]) ++ List.replicate (z - 1) 0 ++ C := by
 obtain ⟨z, rfl⟩ : ∃ y, z = y + 1 := ⟨z - 1, by omega⟩
 rw [List.append_assoc (A ++ X), List.set_append_right _ _ (by rw [List.length_append]; omega)]
 rw [List.length_append, Nat.sub_self, List.replicate_succ, List.cons_append, List.set_cons_zero]
 simp
structure HS0 (w : World) (wx : World) : Prop where
 b0 : wx.heap[w.heap.size]? = some (.cells #[.int .i64 0, .int .i64 0, .slice none 0 0, .slice none 0 0] 65 (0, 0))
 b1 : wx.heap[w.heap.size + 1]? = some (.cells #[.int .i64 0, .int .i64 0, .int .i64 0] 219 (0, 0))
theorem results_mid {fn : Func} {p t t2 : Tmp} {ty : TypeId} (h : fn.results = #[.tmp t, .cell p ty, .tmp t2]) (tmps : Array Value) (P : Program) (w : World) :
  (results fn tmps).run P w = ((asAddr (tmps.getD p undef)).run P w).andThen fun a w₁ => ((loadVar ty a).run P w₁).andThen fun x w₂ => .ok (.tuple #[tmps.getD t undef, x, tmps.getD t2 undef]) w₂ := by
 simp only [results, h]
 simp [Sem.run_bind, Result.andThen]
structure DD (n0 q k gp ge gl cq : Nat) : Prop where
 hq : q < n0
 hk : n0 < k
 hp : n0 < gp
 he : n0 < ge
 hl : n0 < gl
 hc : n0 < cq
 kp : k ≠ gp
 ke : k ≠ ge
 kl : k ≠ gl
 kc : k ≠ cq
 pe : gp ≠ ge
 pl : gp ≠ gl
 pc : gp ≠ cq
 el : ge ≠ gl
 ec : ge ≠ cq
 lc : gl ≠ cq
theorem set_next (X : List Int) (z : Nat) (v : Int) (hz : 0 < z) : (X ++ List.replicate z 0).set X.length v = X ++ [v] ++ List.replicate (z - 1) 0 := by
 have h := set_mid [] X [] z v hz
 simpa using h
theorem ahead_next {s : ByteArray} {a : Nat} {A R : List Nat} (h : ahead s a = A ++ R) : ahead s (a + A.length) = R := by
 rw [<- ahead_drop, h, List.drop_left]
def encR (c : Rc) (b r : Int) (l : List Int) : Bool := decide (chkOk c b r) && fitB c b.toNat c.o.toNat r.toNat l
theorem encR_yes {c : Rc} {b r : Int} {l : List Int} (h : encR c b r l = true) : ∃ b' o' r' : Nat, b = b' /\ r = r' /\ Rok c b' o' r' /\ fitB c b' o' r' l = true := by
 obtain ⟨h1, h2⟩ := Bool.and_eq_true_iff.1 h
 obtain ⟨b', r', o', rfl, rfl, hk⟩ := Rok.of (of_decide_eq_true h1)
 have e : c.o.toNat = o' := by have := hk.ho; omega
 rw [e] at h2
 exact ⟨b', o', r', rfl, rfl, hk, by simpa using h2⟩
def encN (c : Rc) (b r : Int) (l : List Int) : Int := if encR c b r l then 0 else 60
def encL (c : Rc) (b r : Int) (l : List Int) : List Nat := if encR c b r l then encB c b.toNat r.toNat l else []
theorem encB_room (c : Rc) (b o r : Nat) (hk : Rok c b o r) (l : List Int) (hlen : l.length = b - r) (h5 : l.length <= 65535) : (encB c b r l).length <= 1300000000000 := by
 have hot : c.o.toNat = o := by have := hk.ho; omega
 have h1 := parts_room c hk.m1 hk.cut l hlen (2 ^ o) (Nat.le_refl _) h5
 have h2 := putB_short c.m 2 (by omega)
 have h3 := putB_short c.o 4 (by omega)
 unfold encB
 rw [hot]
 simp only [List.length_append]
 omega
theorem encode_all (c : Rc) (l : List Int) (hs : ShX l) (pa : OA) (pc : Nat) (ea : OA) (ec : Nat) (lo : OA) (cap : Nat) (hc : l.length <= cap) (h0 : lo = none -> cap = 0) (p : Nat) (ao : OA) (B : List Nat) (h01 : Bits01 B) (hB : B.length <= 1300000000000) (w : World) (hr : RcAt w c pa ea) (hl : IntsAt w lo l) (hw : WrB w p ao B) (a1 : Apart p ao pa c.P) (a2 : Apart p ao ea c.E) (a3 : Apart p ao lo l) (b r : Int) :
  Calls Tryz.prog 160 #[.pointer (some ⟨p, 0, none⟩), riceV c pa pc ea ec, .int .i64 b, .int .i64 r, .slice lo l.length cap] w fun en w' => en = .returned (.int .i64 (encN c b r l)) /\ ∃ ao', WrB w' p ao' (B ++ encL c b r l) /\ Stays (foot p ao) w w' /\ Moved w.heap.size ao ao' := by
 cases hR : encR c b r l with
 | true =>
  have e1 : encN c b r l = 0 := by unfold encN; rw [hR]; rfl
  have e2 : encL c b r l = encB c b.toNat r.toNat l := by unfold encL; rw [hR]; rfl
  rw [e1, e2];obtain ⟨b', o', r', rfl, rfl, hk, hf⟩ := encR_yes hR;exact encode_ok c l hs pa pc ea ec lo cap hc h0 p ao B h01 hB w hr hl hw a1 a2 a3 b' o' r' hk hf
 | false =>
  have e1 : encN c b r l = 60 := by unfold encN; rw [hR]; rfl
  have e2 : encL c b r l = [] := by unfold encL; rw [hR]; rfl
  rw [e1, e2, List.append_nil];have fin : ∀ (e : Ending) (w' : World), e = .returned (.int .i64 60) /\ Lo w w' -> e = .returned (.int .i64 60) /\ ∃ ao', WrB w' p ao' B /\ Stays (foot p ao) w w' /\ Moved w.heap.size ao ao' := fun e w' hh => ⟨hh.1, ao, hw.below hh.2, Stays.of_below hh.2 _, Moved.refl _ _⟩;by_cases hch : chkOk c b r
  ·obtain ⟨b', r', o', rfl, rfl, hk⟩ := Rok.of hch
   have e : c.o.toNat = o' := by have := hk.ho; omega
   have hf : fitB c b' o' r' l = false := by
    unfold encR at hR;rw [decide_eq_true hch, e] at hR
    simpa using hR
   exact (encode_fit c l hs pa pc ea ec lo cap hc h0 p ao B h01 hB w hr hl hw b' o' r' hk hf).mono fin
  ·exact (encode_chk c l hs pa pc ea ec lo cap hc h0 p ao B h01 hB w hr hl hw b r hch).mono fin
theorem ahead_01 (s : ByteArray) (a : Nat) : Bits01 (ahead s a) := (sbits_01 _).drop a
theorem ahead_cut (s : ByteArray) (a k : Nat) (h : a + k <= 8 * s.size) : ahead s a = bitsOf (bitsAt s a k) k ++ ahead s (a + k) := by
 have hl : ((ahead s a).take k).length = k := by rw [List.length_take, ahead_length]; omega
 have e : bitsAt s a k = num ((ahead s a).take k) := rfl
 have h1 := bitsOf_num _ ((ahead_01 s a).take k)
 rw [hl] at h1
 rw [e, h1, <- ahead_drop, List.take_append_drop]
theorem get_again (s : ByteArray) (a : Nat) (k : Int) (h : getE s a k = 0) : putE (getV s a k) k = 0 /\ ahead s a = putB (getV s a k) k ++ ahead s (getA s a k) /\ getA s a k = a + (putB (getV s a k) k).length := by
 have hk : 0 <= k /\ k <= 64 /\ a + k.toNat <= 8 * s.size := by
  unfold getE at h
  split at h
  ·cases h
  ·split at h
   ·cases h
   ·omega
 have hv : getV s a k = (bitsAt s a k.toNat : Int) := getV_nat s a k h
 have hlt : getV s a k < 2 ^ k.toNat := (getV_bound s a k).2
 have hA : getA s a k = a + k.toNat := by unfold getA; rw [if_pos h]
 have hB : putB (getV s a k) k = bitsOf (bitsAt s a k.toNat) k.toNat := by
  unfold putB;rw [if_pos ⟨hk.1, hk.2.1, hlt⟩, hv, Int.toNat_natCast]
 refine ⟨by unfold putE; rw [if_pos ⟨hk.1, hk.2.1, hlt⟩], ?_, ?_⟩
 ·rw [hB, hA]; exact ahead_cut s a k.toNat hk.2.2
 ·rw [hB, hA, bitsOf_length]
theorem asU_sgn (u k : Nat) (h1 : 1 <= k) (h2 : k <= 64) (hu : u < 2 ^ k) : asU (sgn u k) % 2 ^ k = u /\ -2 ^ (k - 1) <= sgn u k /\ sgn u k < 2 ^ (k - 1) := by
 obtain ⟨H, hH⟩ : ∃ H, H = (2 : Nat) ^ (k - 1) := ⟨_, rfl⟩
 have hk : (2 : Nat) ^ k = 2 * H := by rw [hH, <- Nat.pow_succ', show (k - 1).succ = k from by omega]
 have hi : (2 : Int) ^ (k - 1) = (H : Int) := by rw [hH]; simp
 have hki : (2 : Int) ^ k = ((2 * H : Nat) : Int) := by rw [<- hk]; simp
 have hH0 : 0 < H := by rw [hH]; exact Nat.two_pow_pos _
 have hdvd : (((2 * H : Nat) : Int)) ∣ 18446744073709551616 := by
  refine ⟨((2 ^ (64 - k) : Nat) : Int), ?_⟩;have e : (2 * H) * 2 ^ (64 - k) = 18446744073709551616 := by rw [<- hk, <- Nat.pow_add, show k + (64 - k) = 64 from by omega]
  rw [<- Int.natCast_mul, e];rfl
 have hm : ∀ n : Int, ((asU n % (2 * H) : Nat) : Int) = n % ((2 * H : Nat) : Int) := fun n => by
  rw [Int.natCast_emod];have e : (asU n : Int) = n % 18446744073709551616 := by unfold asU; omega
  rw [e, Int.emod_emod_of_dvd n hdvd]
 rw [hk] at hu
 have h3 := hm (sgn u k)
 have hs : sgn u k = if H <= u then (u : Int) - ((2 * H : Nat) : Int) else (u : Int) := by unfold sgn; rw [<- hH, hki]
 rw [hi, hk]
 rw [hs] at h3 ⊢
 by_cases c : H <= u
 ·rw [if_pos c] at h3 ⊢
  have e : ((u : Int) - ((2 * H : Nat) : Int)) % ((2 * H : Nat) : Int) = u := by
   rw [Int.sub_emod_right];exact Int.emod_eq_of_lt (by omega) (by omega)
  rw [e] at h3;refine ⟨by omega, by omega, by omega⟩
 ·rw [if_neg c] at h3 ⊢
  have e : (u : Int) % ((2 * H : Nat) : Int) = u := Int.emod_eq_of_lt (by omega) (by omega)
  rw [e] at h3;refine ⟨by omega, by omega, by omega⟩
theorem sig_again (s : ByteArray) (a : Nat) (k : Int) (h : sgnE s a k = 0) : sigE (sgnV s a k) k = 0 /\ ahead s a = sigB (sgnV s a k) k ++ ahead s (sgnA s a k) /\ sgnA s a k = a + (sigB (sgnV s a k) k).length := by
 have hk : 1 <= k /\ k <= 64 /\ a + k.toNat <= 8 * s.size := by
  unfold sgnE at h
  split at h
  ·cases h
  ·split at h
   ·cases h
   ·omega
 have hv : sgnV s a k = sgn (bitsAt s a k.toNat) k.toNat := by unfold sgnV; rw [if_pos h]
 have hA : sgnA s a k = a + k.toNat := by unfold sgnA; rw [if_pos h]
 obtain ⟨g1, g2, g3⟩ := asU_sgn (bitsAt s a k.toNat) k.toNat (by omega) (by omega) (bitsAt_lt s a k.toNat)
 rw [<- hv] at g1 g2 g3
 have hB : sigB (sgnV s a k) k = bitsOf (bitsAt s a k.toNat) k.toNat := by
  unfold sigB;rw [if_pos ⟨hk.1, hk.2.1, g2, g3⟩, <- bitsOf_mod _ k.toNat k.toNat (Nat.le_refl _), g1]
 refine ⟨by unfold sigE; rw [if_pos ⟨hk.1, hk.2.1, g2, g3⟩], ?_, ?_⟩
 ·rw [hB, hA]; exact ahead_cut s a k.toNat hk.2.2
 ·rw [hB, hA, bitsOf_length]
theorem lead_split (L : List Nat) (h : Bits01 L) (hl : lead L < L.length) : L = List.replicate (lead L) 0 ++ [1] ++ L.drop (lead L + 1) := by
 induction L with
 | nil => simp at hl
 | cons x t ih =>
  have hx := h x (by simp)
  rw [lead_cons] at hl ⊢;by_cases e : x = 0
  ·rw [if_pos e] at hl ⊢
   have ih2 := ih (fun b hb => h b (by simp [hb])) (by simp at hl; omega)
   rw [Nat.add_comm 1, List.replicate_succ, e];show 0 :: t = 0 :: (List.replicate (lead t) 0 ++ [1] ++ t.drop (lead t + 1));rw [<- ih2]
  ·rw [if_neg e] at hl ⊢
   have e1 : x = 1 := by omega
   rw [e1]; rfl
theorem una_again (s : ByteArray) (a : Nat) (h : unaE s a = 0) : unrE (unaV s a) = 0 /\ ahead s a = unrB (unaV s a) ++ ahead s (unaA s a) /\ unaA s a = a + (unrB (unaV s a)).length := by
 have hv : unaV s a = (lead (ahead s a) : Int) := by unfold unaV; rw [if_pos h]
 have hA : unaA s a = a + lead (ahead s a) + 1 := by unfold unaA; rw [if_pos h]
 have hk : lead (ahead s a) <= 16777216 /\ lead (ahead s a) < (ahead s a).length := by
  have hle := lead_le (ahead s a);rw [ahead_length] at hle ⊢;unfold unaE at h
  split at h
  ·cases h
  ·split at h
   ·cases h
   ·omega
 have hB : unrB (unaV s a) = List.replicate (lead (ahead s a)) 0 ++ [1] := by
  unfold unrB; rw [hv, if_pos (by omega), Int.toNat_natCast]
 refine ⟨by unfold unrE; rw [hv, if_pos (by omega)], ?_, ?_⟩
 ·rw [hB, hA, Nat.add_assoc, <- ahead_drop]
  exact lead_split _ (ahead_01 s a) hk.2
 ·rw [hB, hA, List.length_append, List.length_replicate, List.length_singleton, Nat.add_assoc]
theorem fold_unfold (u : Nat) : foldN (unfoldN u) = u := by
 unfold unfoldN
 by_cases h : u % 2 = 0
 ·rw [if_pos h]
  have e := foldN_pos ((u / 2 : Nat) : Int) (by omega)
  omega
 ·rw [if_neg h]
  have e := foldN_neg (-((u / 2 : Nat) : Int) - 1) (by omega)
  omega
theorem ric_again (s : ByteArray) (a : Nat) (k : Int) (h : ricE s a k = 0) : rcwE (ricV s a k) k = 0 /\ ahead s a = rcwB (ricV s a k) k ++ ahead s (ricA s a k) /\ ricA s a k = a + (rcwB (ricV s a k) k).length := by
 have hk : 0 <= k /\ k <= 30 /\ unaE s a = 0 /\ a + lead (ahead s a) + 1 + k.toNat <= 8 * s.size := by
  unfold ricE at h
  split at h
  ·cases h
  ·split at h
   ·split at h
    ·cases h
    ·exact ⟨by omega, by omega, by assumption, by omega⟩
   ·rename_i h2; exact absurd h h2
 obtain ⟨_, hu, hua⟩ := una_again s a hk.2.2.1
 have hz : lead (ahead s a) <= 16777216 := by
  have := hk.2.2.1;unfold unaE at this
  split at this
  ·cases this
  ·omega
 have huv : unaV s a = (lead (ahead s a) : Int) := by unfold unaV; rw [if_pos hk.2.2.1]
 have huA : unaA s a = a + lead (ahead s a) + 1 := by unfold unaA; rw [if_pos hk.2.2.1]
 rw [huv, huA] at hu
 have hB0 : unrB (lead (ahead s a) : Int) = List.replicate (lead (ahead s a)) 0 ++ [1] := by
  unfold unrB; rw [if_pos (by omega), Int.toNat_natCast]
 rw [hB0] at hu
 have hcut := ahead_cut s (a + lead (ahead s a) + 1) k.toNat hk.2.2.2
 have hv : ricV s a k = unfoldN (lead (ahead s a) * 2 ^ k.toNat + bitsAt s (a + lead (ahead s a) + 1) k.toNat) := by unfold ricV; rw [if_pos h]
 have hA : ricA s a k = a + lead (ahead s a) + 1 + k.toNat := by unfold ricA; rw [if_pos h]
 have hm := bitsAt_lt s (a + lead (ahead s a) + 1) k.toNat
 have hf : foldN (ricV s a k) = lead (ahead s a) * 2 ^ k.toNat + bitsAt s (a + lead (ahead s a) + 1) k.toNat := by rw [hv, fold_unfold]
 have hq : foldN (ricV s a k) / 2 ^ k.toNat = lead (ahead s a) := by
  rw [hf, Nat.mul_comm, Nat.mul_add_div (Nat.two_pow_pos _), Nat.div_eq_of_lt hm, Nat.add_zero]
 have hr : bitsOf (foldN (ricV s a k)) k.toNat = bitsOf (bitsAt s (a + lead (ahead s a) + 1) k.toNat) k.toNat := by
  rw [<- bitsOf_mod _ k.toNat k.toNat (Nat.le_refl _), hf, Nat.mul_comm, Nat.mul_add_mod, Nat.mod_eq_of_lt hm]
 have hB : rcwB (ricV s a k) k = List.replicate (lead (ahead s a)) 0 ++ [1] ++ bitsOf (bitsAt s (a + lead (ahead s a) + 1) k.toNat) k.toNat := by
  unfold rcwB; rw [hq, if_pos ⟨hk.1, hk.2.1, hz⟩, hr]
 refine ⟨by unfold rcwE; rw [hq, if_pos ⟨hk.1, hk.2.1, hz⟩], ?_, ?_⟩
 ·rw [hB, hA, List.append_assoc, <- hcut]; exact hu
 ·rw [hB, hA]; simp only [List.length_append, List.length_replicate, List.length_singleton, bitsOf_length]; omega
theorem one_again (s : ByteArray) (a : Nat) (k e : Int) (h : rdE s a k e = 0) : fitE k e (rdV s a k e) /\ ahead s a = oneB k e (rdV s a k e) ++ ahead s (rdA s a k e) /\ rdA s a k e = a + (oneB k e (rdV s a k e)).length := by
 unfold rdE at h
 unfold fitE oneB rdV rdA
 by_cases e1 : e = -1
 ·rw [if_pos e1] at h
  simp only [if_pos e1];exact ric_again s a k h
 ·rw [if_neg e1] at h
  simp only [if_neg e1];by_cases e2 : e = 0
  ·simp only [if_pos e2]
   exact ⟨trivial, rfl, rfl⟩
  ·rw [if_neg e2] at h
   simp only [if_neg e2];exact sig_again s a e h
theorem nums_again {s : ByteArray} {k e : Int} {n a a1 : Nat} {X : List Int} (h : rdAll s k e n a = some (X, a1)) : (∀ x ∈ X, fitE k e x) /\ ahead s a = numsB k e X ++ ahead s a1 /\ a1 = a + (numsB k e X).length := by
 induction n generalizing X a1 with
 | zero => unfold rdAll at h; cases h; exact ⟨fun x hx => (by cases hx), rfl, rfl⟩
 | succ n ih =>
  unfold rdAll at h
  cases hq : rdAll s k e n a with
  | none => rw [hq] at h; cases h
  | some p =>
   obtain ⟨Y, a2⟩ := p;rw [hq] at h;simp only at h
   split at h
   ·rename_i h0
    cases h;obtain ⟨i1, i2, i3⟩ := ih hq;obtain ⟨o1, o2, o3⟩ := one_again s a2 k e h0;refine ⟨fun x hx => ?_, ?_, ?_⟩
    ·rcases List.mem_append.1 hx with hx | hx
     ·exact i1 x hx
     ·rw [List.mem_singleton] at hx; rw [hx]; exact o1
    ·rw [numsB_snoc, List.append_assoc, <- o2, <- i2]
    ·rw [numsB_snoc, List.length_append, o3, i3, Nat.add_assoc]
   ·cases h
def foreS (C l : List Int) (a : Nat) : Nat -> Int
 | 0 => 0
 | i + 1 => wrap64 (foreS C l a i + wrap64 (C.getD i 0 * l.getD (a - 1 - i) 0))
def foreN (C : List Int) (sh : Nat) (l : List Int) (a : Nat) : Int := foreS C l a C.length / 2 ^ sh
def leftN (C : List Int) (sh : Nat) (l : List Int) : Nat -> List Int
 | 0 => []
 | n + 1 => leftN C sh l n ++ [wrap64 (l.getD (C.length + n) 0 - foreN C sh l (C.length + n))]
def wholeN (C : List Int) (sh : Nat) (warm l : List Int) : Nat -> List Int
 | 0 => warm
 | n + 1 => wholeN C sh warm l n ++ [wrap64 (l.getD n 0 + foreN C sh (wholeN C sh warm l n) (warm.length + n))]
abbrev Rng (l : List Int) : Prop := ∀ n ∈ l, -9223372036854775808 <= n /\ n <= 9223372036854775807
theorem wrap_rng (n : Int) : -9223372036854775808 <= wrap64 n /\ wrap64 n <= 9223372036854775807 := by unfold wrap64; omega
theorem foreS_rng (C l : List Int) (a k : Nat) : -9223372036854775808 <= foreS C l a k /\ foreS C l a k <= 9223372036854775807 := by
 cases k with
 | zero => unfold foreS; omega
 | succ k => exact wrap_rng _
theorem shr_rng (x : Int) (sh : Nat) (h : -9223372036854775808 <= x /\ x <= 9223372036854775807) : -9223372036854775808 <= x / 2 ^ sh /\ x / 2 ^ sh <= 9223372036854775807 := by
 have hp : (1 : Int) <= 2 ^ sh := by
  have := Nat.one_le_two_pow (n := sh);have e : ((2 ^ sh : Nat) : Int) = (2 : Int) ^ sh := by simp
  omega
 generalize (2 : Int) ^ sh = P at *
 refine ⟨?_, ?_⟩
 ·refine Int.le_ediv_of_mul_le (by omega) ?_
  have : (-9223372036854775808 : Int) * P <= -9223372036854775808 * 1 := Int.mul_le_mul_of_nonpos_left (by omega) (by omega)
  omega
 ·by_cases h0 : 0 <= x
  ·have := Int.ediv_le_self P h0; omega
  ·have := Int.ediv_neg_of_neg_of_pos (show x < 0 by omega) (show (0 : Int) < P by omega); omega
theorem leftN_len (C : List Int) (sh : Nat) (l : List Int) (n : Nat) : (leftN C sh l n).length = n := by
 induction n with
 | zero => rfl
 | succ n ih => unfold leftN; rw [List.length_append, ih]; rfl
theorem leftN_rng (C : List Int) (sh : Nat) (l : List Int) (n : Nat) : Rng (leftN C sh l n) := by
 induction n with
 | zero => intro x hx; cases hx
 | succ n ih =>
  intro x hx
  rcases List.mem_append.1 hx with hx | hx
  ·exact ih x hx
  ·rw [List.mem_singleton] at hx; rw [hx]; exact wrap_rng _
theorem getD_app_left (a b : List Int) (i : Nat) (h : i < a.length) : (a ++ b).getD i 0 = a.getD i 0 := by
 rw [List.getD_eq_getElem?_getD, List.getD_eq_getElem?_getD, List.getElem?_append_left h]
theorem getD_app_len (a : List Int) (x : Int) : (a ++ [x]).getD a.length 0 = x := by
 rw [List.getD_eq_getElem?_getD, List.getElem?_append_right (Nat.le_refl _), Nat.sub_self]; rfl
theorem leftN_at (C : List Int) (sh : Nat) (l : List Int) (n i : Nat) (h : i < n) : (leftN C sh l n).getD i 0 = wrap64 (l.getD (C.length + i) 0 - foreN C sh l (C.length + i)) := by
 induction n with
 | zero => omega
 | succ n ih =>
  have hl := leftN_len C sh l n;unfold leftN;by_cases e : i = n
  ·subst e
   have h2 := getD_app_len (leftN C sh l i) (wrap64 (l.getD (C.length + i) 0 - foreN C sh l (C.length + i)));rw [hl] at h2; exact h2
  ·rw [getD_app_left _ _ _ (by omega)]; exact ih (by omega)
theorem take_next (l : List Int) (n : Nat) (h : n < l.length) : l.take n ++ [l.getD n 0] = l.take (n + 1) := by
 rw [List.take_add_one, List.getD_eq_getElem?_getD, List.getElem?_eq_getElem h]; rfl
def wF (o : Nat) : List Int := if o = 0 then [] else if o = 1 then [1] else if o = 2 then [2, -1] else if o = 3 then [3, -3, 1] else [4, -6, 4, -1]
theorem wF_len (o : Nat) (h : o <= 4) : (wF o).length = o := by
 rcases (show o = 0 ∨ o = 1 ∨ o = 2 ∨ o = 3 ∨ o = 4 by omega) with rfl | rfl | rfl | rfl | rfl <;> rfl
def dvB (l : List Int) (k : Nat) : Bool := l.all fun n => n % 2 ^ k == 0
theorem dvB_iff (l : List Int) (k : Nat) : dvB l k = true ↔ ∀ n ∈ l, n % 2 ^ k = 0 := by unfold dvB; simp
def shrL (l : List Int) (k : Nat) : List Int := l.map fun n => n / 2 ^ k
def shlL (l : List Int) (k : Nat) : List Int := l.map fun n => wrap64 (n * 2 ^ k)
def stP (m : Nat) (p q : Int) : Int := if m = 2 then p - q else if m = 3 then (p + q) / 2 else p
def stQ (m : Nat) (p q : Int) : Int := if m = 1 then p - q else if m = 3 then p - q else q
def unP (m : Nat) (p q : Int) : Int := if m = 2 then p + q else if m = 3 then (p * 2 + q % 2 + q) / 2 else p
def unQ (m : Nat) (p q : Int) : Int := if m = 1 then p - q else if m = 3 then (p * 2 + q % 2 - q) / 2 else q
def zipN (f : Int -> Int -> Int) (a b : List Int) : Nat -> List Int
 | 0 => []
 | n + 1 => zipN f a b n ++ [f (a.getD n 0) (b.getD n 0)]
theorem zipN_len (f : Int -> Int -> Int) (a b : List Int) (n : Nat) : (zipN f a b n).length = n := by
 induction n with
 | zero => rfl
 | succ n ih => unfold zipN; rw [List.length_append, ih]; rfl
theorem zipN_at (f : Int -> Int -> Int) (a b : List Int) (n i : Nat) (h : i < n) : (zipN f a b n).getD i 0 = f (a.getD i 0) (b.getD i 0) := by
 induction n with
 | zero => omega
 | succ n ih =>
  have hl := zipN_len f a b n;unfold zipN;by_cases e : i = n
  ·subst e
   have h2 := getD_app_len (zipN f a b i) (f (a.getD i 0) (b.getD i 0));rw [hl] at h2; exact h2
  ·rw [getD_app_left _ _ _ (by omega)]; exact ih (by omega)
def inB (l : List Int) (M : Int) : Bool := l.all fun n => decide (-M <= n) && decide (n <= M)
theorem inB_iff (l : List Int) (M : Int) : inB l M = true ↔ ∀ n ∈ l, -M <= n /\ n <= M := by unfold inB; simp
structure Sb where
 k : Int
 o : Int
 w : Int
 p : Int
 h : Int
 C : List Int
 R : Rc
abbrev bareOk (s : Sb) : Prop := s.p = 0 /\ s.h = 0 /\ s.C = []
abbrev plnOk (s : Sb) : Prop := s.o = 0 /\ s.R = ⟨0, 0, [], []⟩
abbrev kdA (s : Sb) : Prop := (s.k = 0 ∨ s.k = 1) /\ bareOk s /\ plnOk s
abbrev kdF (s : Sb) (b : Int) : Prop := s.k = 2 /\ bareOk s /\ 0 <= s.o /\ s.o <= 4 /\ s.o <= b /\ chkOk s.R b s.o
abbrev kdL (s : Sb) (b : Int) : Prop := s.k = 3 /\ 1 <= s.o /\ s.o <= 32 /\ s.o <= b /\ 1 <= s.p /\ s.p <= 15 /\ 0 <= s.h /\ s.h <= 15 /\ (s.C.length : Int) = s.o /\ (∀ x ∈ s.C, sigE x s.p = 0) /\ chkOk s.R b s.o
abbrev subOk (s : Sb) (b v : Int) : Prop := (1 <= b /\ b <= 65535) /\ (1 <= v /\ v <= 33) /\ (0 <= s.w /\ s.w < v) /\ (kdA s ∨ kdF s b ∨ kdL s b)
def resN (s : Sb) (m : List Int) : List Int := if s.k = 2 then leftN (wF s.o.toNat) 0 m (m.length - s.o.toNat) else leftN s.C s.h.toNat m (m.length - s.o.toNat)
abbrev goesOk (s : Sb) (v : Int) (l : List Int) : Prop := (∀ x ∈ l, sigE x v = 0) /\ dvB l s.w.toNat = true /\ (s.k = 0 -> ∀ x ∈ l, x = l.getD 0 0) /\ (s.k = 2 ∨ s.k = 3 -> encR s.R l.length s.o (resN s (shrL l s.w.toNat)) = true)
def typN (s : Sb) : Int := if s.k = 0 then 0 else if s.k = 1 then 1 else if s.k = 2 then 8 + s.o else 31 + s.o
def wstB (w : Int) : List Nat := if 0 < w then putB 1 1 ++ unrB (w - 1) else putB 0 1
def bodyB (s : Sb) (v : Int) (m : List Int) : List Nat :=
 if s.k = 0 then sigB (m.getD 0 0) (v - s.w)
 else if s.k = 1 then numsB 0 (v - s.w) m
 else if s.k = 2 then numsB 0 (v - s.w) (m.take s.o.toNat) ++ encB s.R m.length s.o.toNat (resN s m)
 else numsB 0 (v - s.w) (m.take s.o.toNat) ++ (putB (s.p - 1) 4 ++ (putB s.h 5 ++ (numsB 0 s.p s.C ++ encB s.R m.length s.o.toNat (resN s m))))
def subB (s : Sb) (v : Int) (l : List Int) : List Nat := putB (typN s) 7 ++ (wstB s.w ++ bodyB s v (shrL l s.w.toNat))
theorem sigE_iff (x v : Int) : sigE x v = 0 ↔ 1 <= v /\ v <= 64 /\ -2 ^ (v.toNat - 1) <= x /\ x < 2 ^ (v.toNat - 1) := by
 unfold sigE
 constructor
 ·intro h
  split at h
  ·assumption
  ·cases h
 ·intro h; rw [if_pos h]
theorem fit0 (v x : Int) (h0 : ¬ v = -1) (h1 : ¬ v = 0) : fitE 0 v x ↔ sigE x v = 0 := by unfold fitE; rw [if_neg h0, if_neg h1]
theorem pow_int (k : Nat) : (2 : Int) ^ k = ((2 ^ k : Nat) : Int) := by simp
theorem fit_div (x : Int) (v w : Nat) (hw : w < v) (hf : sigE x v = 0) (hd : x % 2 ^ w = 0) : sigE (x / 2 ^ w) ((v - w : Nat) : Int) = 0 := by
 rw [sigE_iff] at hf ⊢
 obtain ⟨h1, h2, h3, h4⟩ := hf
 rw [Int.toNat_natCast] at h3 h4 ⊢
 have hp : (2 : Int) ^ (v - 1) = 2 ^ (v - w - 1) * 2 ^ w := by rw [<- Int.pow_add]; congr 1; omega
 have hq : (0 : Int) < 2 ^ w := Int.pow_pos (by decide)
 have hx : x / 2 ^ w * 2 ^ w = x := Int.ediv_mul_cancel (Int.dvd_of_emod_eq_zero hd)
 rw [hp] at h3 h4
 refine ⟨by omega, by omega, ?_, ?_⟩
 ·rw [<- hx, <- Int.neg_mul] at h3
  exact Int.le_of_mul_le_mul_right h3 hq
 ·rw [<- hx] at h4
  exact Int.lt_of_mul_lt_mul_right h4 (Int.le_of_lt hq)
theorem fit_rng (l : List Int) (v : Int) (h : ∀ x ∈ l, sigE x v = 0) : Rng l := fun x hx => by
 obtain ⟨h1, h2, h3, h4⟩ := (sigE_iff x v).1 (h x hx)
 have hp : (2 : Nat) ^ (v.toNat - 1) <= 2 ^ 63 := Nat.pow_le_pow_right (by decide) (by omega)
 have e63 : (2 : Nat) ^ 63 = 9223372036854775808 := by decide
 rw [pow_int] at h3 h4
 omega
theorem shl_len (l : List Int) (k : Nat) : (shlL l k).length = l.length := List.length_map ..
theorem shr_len (l : List Int) (k : Nat) : (shrL l k).length = l.length := List.length_map ..
theorem shr_fit (l : List Int) (v w : Nat) (hw : w < v) (h : ∀ x ∈ l, sigE x v = 0) (hd : dvB l w = true) : ∀ x ∈ shrL l w, sigE x ((v - w : Nat) : Int) = 0 := fun y hy => by
 obtain ⟨x, hm, rfl⟩ := List.mem_map.1 hy
 exact fit_div x v w hw (h x hm) ((dvB_iff l w).1 hd x hm)
abbrev R0 : Rc := ⟨0, 0, [], []⟩
def kindN (t : Int) : Option (Int × Int) := if t = 0 then some (0, 0) else if t = 1 then some (1, 0) else if 8 <= t /\ t <= 12 then some (2, t - 8) else if 32 <= t /\ t <= 63 then some (3, t - 31) else none
abbrev kinds (k o : Int) : Prop := (k = 0 /\ o = 0) ∨ (k = 1 /\ o = 0) ∨ (k = 2 /\ 0 <= o /\ o <= 4) ∨ (k = 3 /\ 1 <= o /\ o <= 32)
def rdW (s : ByteArray) (a : Nat) (v : Int) : Option (Int × Nat) :=
 if getE s a 1 = 0 then
  if getV s a 1 = 1 then
   (if unaE s (getA s a 1) = 0 /\ unaV s (getA s a 1) + 1 < v then some (unaV s (getA s a 1) + 1, unaA s (getA s a 1)) else none)
  else some (0, getA s a 1)
 else none
def rdSHead (s : ByteArray) (a : Nat) (b v : Int) : Option (Int × Int × Int × Nat) :=
 if getE s a 7 = 0 then
  match kindN (getV s a 7) with
  | none => none
  | some (k, o) => match rdW s (getA s a 7) v with
   | none => none
   | some (w, a1) => if o <= b then some (k, o, w, a1) else none
 else none
structure Bd where
 m : List Int
 p : Int
 h : Int
 C : List Int
 R : Rc
 a : Nat
def rdRes (s : ByteArray) (a : Nat) (b : Int) (o p h : Int) (C D W : List Int) : Option Bd :=
 match decP s a b o with
 | none => none
 | some (c, r, a2) => some ⟨wholeN D h.toNat W r r.length, p, h, C, c, a2⟩
def rdLpc (s : ByteArray) (a : Nat) (b o : Int) (W : List Int) : Option Bd :=
 if getE s a 4 = 0 /\ ¬ getV s a 4 = 15 /\ getE s (getA s a 4) 5 = 0 /\ getV s (getA s a 4) 5 <= 15 then
  match rdAll s 0 (getV s a 4 + 1) o.toNat (getA s (getA s a 4) 5) with
  | none => none
  | some (C, a1) => rdRes s a1 b o (getV s a 4 + 1) (getV s (getA s a 4) 5) C C W
 else none
def rdSBody (s : ByteArray) (a : Nat) (b v k o : Int) : Option Bd :=
 if k = 0 then (if sgnE s a v = 0 then some ⟨List.replicate b.toNat (sgnV s a v), 0, 0, [], R0, sgnA s a v⟩ else none)
 else if k = 1 then (match rdAll s 0 v b.toNat a with
  | none => none
  | some (m, a1) => some ⟨m, 0, 0, [], R0, a1⟩)
 else match rdAll s 0 v o.toNat a with
  | none => none
  | some (W, a1) => if k = 2 then rdRes s a1 b o 0 0 [] (wF o.toNat) W else rdLpc s a1 b o W
def decS (s : ByteArray) (a : Nat) (b v : Int) : Option (List Int × Sb × Nat) :=
 match rdSHead s a b v with
 | none => none
 | some (k, o, w, a1) => match rdSBody s a1 b (v - w) k o with
  | none => none
  | some d => if allT 0 (v - w) d.m = true then some (shlL d.m w.toNat, ⟨k, o, w, d.p, d.h, d.C, d.R⟩, d.a) else none
theorem kd_kinds {s : Sb} {b : Int} (h : kdA s ∨ kdF s b ∨ kdL s b) : kinds s.k s.o := by
 unfold kinds
 rcases h with h | h | h
 ·obtain ⟨h1, _, h3, _⟩ := h; omega
 ·obtain ⟨h1, _, h3, h4, _⟩ := h; omega
 ·obtain ⟨h1, h2, h3, _⟩ := h; omega
theorem numsB_fit_len (v : Int) (m : List Int) (hv : v <= 64) (hv1 : 1 <= v) : (numsB 0 v m).length <= 64 * m.length := by
 induction m with
 | nil => simp [numsB]
 | cons x t ih =>
  have e : numsB 0 v (x :: t) = oneB 0 v x ++ numsB 0 v t := by simp [numsB]
  have h1 : (oneB 0 v x).length <= 64 := by
   unfold oneB sigB;rw [if_neg (by omega), if_neg (by omega)]
   split
   ·rw [bitsOf_length]; omega
   ·simp
  rw [e, List.length_append, List.length_cons]; omega
section
variable {w : Nat}
def bstep (p n : BitVec w) (b : Bool) : BitVec w := (n <<< 1) ^^^ (if n.msb != b then p else 0#w)
theorem xor_if (p a b : BitVec w) (s t : Bool) : (a ^^^ b) ^^^ (if (s ^^ t) then p else 0#w) = (a ^^^ (if s then p else 0#w)) ^^^ (b ^^^ (if t then p else 0#w)) := by
 apply BitVec.eq_of_getLsbD_eq
 intro i hi
 cases s <;> cases t <;> simp only [BitVec.getLsbD_xor, Bool.xor_false, Bool.false_xor, Bool.true_xor, Bool.not_true, Bool.not_false, Bool.xor_true, if_true, if_false, Bool.false_eq_true, BitVec.getLsbD_zero] <;>
  cases a.getLsbD i <;> cases b.getLsbD i <;> cases p.getLsbD i <;> rfl
theorem bstep_xor (p n m : BitVec w) (b c : Bool) : bstep p (n ^^^ m) (b ^^ c) = bstep p n b ^^^ bstep p m c := by
 unfold bstep
 rw [BitVec.msb_xor, BitVec.shiftLeft_xor_distrib, <- xor_if]
 congr 2
 cases n.msb <;> cases m.msb <;> cases b <;> cases c <;> rfl
theorem bstep_own (p n : BitVec w) : bstep p n n.msb = n <<< 1 := by
 unfold bstep
 simp
def bfold (p n : BitVec w) (l : List Bool) : BitVec w := l.foldl (bstep p) n
theorem bfold_append (p n : BitVec w) (l k : List Bool) : bfold p n (l ++ k) = bfold p (bfold p n l) k := by
 unfold bfold
 rw [List.foldl_append]
def bits8 (b : Nat) : List Bool := [b.testBit 7, b.testBit 6, b.testBit 5, b.testBit 4, b.testBit 3, b.testBit 2, b.testBit 1, b.testBit 0]
def byteStep (p n : BitVec w) (b : Nat) : BitVec w := bfold p n (bits8 b)
theorem byteStep_xor (p n m : BitVec w) (b c : Nat) : byteStep p (n ^^^ m) (b ^^^ c) = byteStep p n b ^^^ byteStep p m c := by
 simp only [byteStep, bfold, bits8, List.foldl_cons, List.foldl_nil, Nat.testBit_xor, bstep_xor]
def crcL (p n : BitVec w) (l : List Nat) : BitVec w := l.foldl (byteStep p) n
theorem crcL_append (p n : BitVec w) (l k : List Nat) : crcL p n (l ++ k) = crcL p (crcL p n l) k := by
 unfold crcL
 rw [List.foldl_append]
def ownBits (n : BitVec w) (k : Nat) : List Bool := (List.range k).map fun j => (n <<< j).msb
theorem bfold_own (p n : BitVec w) : ∀ k, bfold p n (ownBits n k) = n <<< k
 | 0 => by simp [ownBits, bfold]
 | k + 1 => by
  have e : ownBits n (k + 1) = ownBits n k ++ [(n <<< k).msb] := by simp [ownBits, List.range_succ]
  rw [e, bfold_append, bfold_own p n k];show bstep p (n <<< k) (n <<< k).msb = _;rw [bstep_own, <- BitVec.shiftLeft_add]
theorem shl_msb (n : BitVec w) (j : Nat) (h : j < w) : (n <<< j).msb = n.getLsbD (w - 1 - j) := by
 rw [BitVec.msb_eq_getLsbD_last, BitVec.getLsbD_shiftLeft]
 have h1 : w - 1 < w := by omega
 have h2 : ¬ w - 1 < j := by omega
 simp [h1, h2]
theorem ownBits_byte (n : BitVec w) (s : Nat) (h : s + 8 <= w) : (List.range 8).map (fun j => n.getLsbD (s + 7 - j)) = bits8 (n.toNat / 2 ^ s % 256) := by
 have hb : ∀ i, i < 8 -> (n.toNat / 2 ^ s % 256).testBit i = n.getLsbD (s + i) := by
  intro i hi;rw [show (256 : Nat) = 2 ^ 8 from rfl, Nat.testBit_mod_two_pow, Nat.testBit_div_two_pow, BitVec.getLsbD]
  simp [hi, Nat.add_comm]
 simp only [bits8, hb 7 (by omega), hb 6 (by omega), hb 5 (by omega), hb 4 (by omega), hb 3 (by omega), hb 2 (by omega), hb 1 (by omega), hb 0 (by omega)]
 rfl
theorem byteStep_own (p n : BitVec w) (h : 8 <= w) : byteStep p n (n.toNat / 2 ^ (w - 8) % 256) = n <<< 8 := by
 have e := ownBits_byte n (w - 8) (by omega)
 have e2 : ownBits n 8 = (List.range 8).map (fun j => n.getLsbD (w - 8 + 7 - j)) := by
  unfold ownBits;apply List.map_congr_left;intro j hj;have hj' : j < 8 := by simpa using hj
  rw [shl_msb n j (by omega)]
  congr 1;omega
 unfold byteStep
 rw [<- e, <- e2, bfold_own]
theorem byteStep_table (p n : BitVec w) (b : Nat) (h : 8 <= w) : byteStep p n b = (n <<< 8) ^^^ byteStep p 0#w (n.toNat / 2 ^ (w - 8) % 256 ^^^ b) := by
 rw [<- byteStep_own p n h, <- byteStep_xor, BitVec.xor_zero, <- Nat.xor_assoc, Nat.xor_self, Nat.zero_xor]
end
section
variable {w : Nat}
def rstep (q n : BitVec w) : BitVec w := (n >>> 1) ^^^ (if n.getLsbD 0 then q else 0#w)
def r8 (q n : BitVec w) : BitVec w := rstep q (rstep q (rstep q (rstep q (rstep q (rstep q (rstep q (rstep q n)))))))
end
def p8 : BitVec 8 := 0x07#8
def p16 : BitVec 16 := 0x8005#16
theorem i64_xor_nat (a b : Nat) (ha : a < 9223372036854775808) (hb : b < 9223372036854775808) : bits .xor .i64 (a : Int) (b : Int) = ((a ^^^ b : Nat) : Int) := by
 show IntKind.i64.wrap ((BitVec.ofInt 64 (a : Int) ^^^ BitVec.ofInt 64 (b : Int)).toNat : Int) = _
 rw [BitVec.toNat_xor, BitVec.toNat_ofInt, BitVec.toNat_ofInt]
 have ea : ((a : Int) % ((2 ^ 64 : Nat) : Int)).toNat = a := by omega
 have eb : ((b : Int) % ((2 ^ 64 : Nat) : Int)).toNat = b := by omega
 rw [ea, eb]
 have hl : a ^^^ b < 2 ^ 63 := Nat.xor_lt_two_pow ha hb
 rw [IntKind.wrap_i64]
 omega
theorem i64_and_nat (a b : Nat) (ha : a < 9223372036854775808) (hb : b < 9223372036854775808) : bits .and .i64 (a : Int) (b : Int) = ((a &&& b : Nat) : Int) := by
 show IntKind.i64.wrap ((BitVec.ofInt 64 (a : Int) &&& BitVec.ofInt 64 (b : Int)).toNat : Int) = _
 rw [BitVec.toNat_and, BitVec.toNat_ofInt, BitVec.toNat_ofInt]
 have ea : ((a : Int) % ((2 ^ 64 : Nat) : Int)).toNat = a := by omega
 have eb : ((b : Int) % ((2 ^ 64 : Nat) : Int)).toNat = b := by omega
 rw [ea, eb]
 have hl : a &&& b < 2 ^ 63 := Nat.and_lt_two_pow _ hb
 rw [IntKind.wrap_i64]
 omega
end Go.Proofs.YtfpfabmbipmipaaGreatDoor
