/- Own text: the walk of the law on pieces: texts that are added one behind the other, and all of them joined; of texts that together hold at most 1048576 bytes. -/
import Derived.Test.YtdmgkgomldjnhaaDoorLaid
namespace Go.Proofs.YtdmgkgomldjnhaaDoor
open Go.RowKit
set_option linter.unusedSimpArgs false
set_option linter.unusedVariables false

/-- The first i texts, one behind the other. -/
def joined (f : Nat → ByteArray) : Nat → ByteArray
  | 0 => ⟨#[]⟩
  | i + 1 => joined f i ++ f i

theorem joined_mono (f : Nat → ByteArray) (i n : Nat) (h : i ≤ n) : (joined f i).size ≤ (joined f n).size := by
  induction n with
  | zero =>
    obtain rfl : i = 0 := by omega
    exact Nat.le_refl _
  | succ n ih =>
    by_cases e : i = n + 1
    · rw [e]
      exact Nat.le_refl _
    · have h1 := ih (by omega)
      have h2 : (joined f (n + 1)).size = (joined f n).size + (f n).size := by
        show (joined f n ++ f n).size = _
        rw [ByteArray.size_append]
      omega

theorem joined_next (f : Nat → ByteArray) (i n : Nat) (h : i < n) : (joined f i).size + (f i).size ≤ (joined f n).size := by
  have h1 := joined_mono f (i + 1) n h
  have h2 : (joined f (i + 1)).size = (joined f i).size + (f i).size := by
    show (joined f i ++ f i).size = _
    rw [ByteArray.size_append]
  omega

set_option maxRecDepth 20000 in
set_option maxHeartbeats 400000 in
theorem value_nil (w : World) : Calls Tryd.prog 19 #[.pointer none] w fun e w' => e = .returned (.int .i64 0) ∧ w' = w := by
  go_enter Tryd.func19, Tryd.ntmps19
  go_wp2
  go_ret
  exact ⟨rfl, rfl⟩

/-- What stays through the loop: the sum of what was added so far; of what was there nothing turns. -/
structure Held (St : World → Nat → List Nat → Prop) (w0 : World) (q : Nat) (l : List Nat) (w : World) : Prop where
  st : St w q l
  below : Below w0.heap.size w0 w

set_option maxRecDepth 20000 in
set_option maxHeartbeats 3200000 in
theorem pieces_of (k : Int) (St : World → Nat → List Nat → Prop) (v : ByteArray → Nat)
    (hnew : ∀ w, RulesAt w → Calls Tryd.prog 17 #[.int .i64 k] w fun e w' => ∃ q, e = .returned (.pointer (some ⟨q, 0, none⟩)) ∧ w.heap.size ≤ q ∧ St w' q [] ∧ Below w.heap.size w w')
    (hadd : ∀ w q l (s : ByteArray), s.size ≤ 200000000000000 → St w q l → Calls Tryd.prog 20 #[.pointer (some ⟨q, 0, none⟩), .string s] w fun e w' => e = .returned (.tuple #[]) ∧ St w' q (l ++ bytesOf s) ∧ Only q w w')
    (hval : ∀ w q (s : ByteArray), St w q (bytesOf s) → Calls Tryd.prog 19 #[.pointer (some ⟨q, 0, none⟩)] w fun e w' => e = .returned (.int .i64 (v s : Int)) ∧ ∃ n, w' = w.drewN n)
    (hof : ∀ w (s : ByteArray), s.size ≤ 200000000000000 → Calls Tryd.prog 18 #[.int .i64 k, .string s] w fun e w' => e = .returned (.tuple #[.int .i64 (v s : Int), .bool true]) ∧ w' = w)
    (hkeep : ∀ w w' q l, St w q l → w'.heap[q]? = w.heap[q]? → St w' q l)
    (ao : Option Addr) (len cap b off : Nat) (f : Nat → ByteArray) (hlen : len ≤ 9223372036854775807) (hsum : (joined f len).size ≤ 1048576) (w : World) (hR : RulesAt w)
    (hao : 0 < len → ao = some ⟨b, off, none⟩) (hcells : ∀ i, i < len → w.cell? ⟨b, off + i, none⟩ = some (.string (f i))) :
    Calls Tryd.prog 4 #[.slice ao len cap, .int .i64 k] w fun e w' => e = .returned (.bool true) ∧ Below w.heap.size w w' := by
  have H0 : Hid (RulesAt w) := hR
  have HN : Hid (∀ w, RulesAt w → Calls Tryd.prog 17 #[.int .i64 k] w fun e w' => ∃ q, e = .returned (.pointer (some ⟨q, 0, none⟩)) ∧ w.heap.size ≤ q ∧ St w' q [] ∧ Below w.heap.size w w') := hnew
  have HA : Hid (∀ w q l (s : ByteArray), s.size ≤ 200000000000000 → St w q l → Calls Tryd.prog 20 #[.pointer (some ⟨q, 0, none⟩), .string s] w fun e w' => e = .returned (.tuple #[]) ∧ St w' q (l ++ bytesOf s) ∧ Only q w w') := hadd
  have HV : Hid (∀ w q (s : ByteArray), St w q (bytesOf s) → Calls Tryd.prog 19 #[.pointer (some ⟨q, 0, none⟩)] w fun e w' => e = .returned (.int .i64 (v s : Int)) ∧ ∃ n, w' = w.drewN n) := hval
  have HO : Hid (∀ w (s : ByteArray), s.size ≤ 200000000000000 → Calls Tryd.prog 18 #[.int .i64 k, .string s] w fun e w' => e = .returned (.tuple #[.int .i64 (v s : Int), .bool true]) ∧ w' = w) := hof
  have HK : Hid (∀ w w' q l, St w q l → w'.heap[q]? = w.heap[q]? → St w' q l) := hkeep
  have HAO : Hid (0 < len → ao = some ⟨b, off, none⟩) := hao
  have HC : Hid (∀ i, i < len → w.cell? ⟨b, off + i, none⟩ = some (.string (f i))) := hcells
  have HSU : Hid ((joined f len).size ≤ 1048576) := hsum
  clear hnew hadd hval hof hkeep hR hao hcells hsum
  go_enter Tryd.func4, Tryd.ntmps4
  go_wp2_with fail
  refine (HN.out w H0.out).mono ?_
  rintro e w1 ⟨q, rfl, hq, hst, hB⟩
  have HQ : Hid (w.heap.size ≤ q) := hq
  have H1 : Hid (Held St w q [] w1) := ⟨hst, hB⟩
  clear hq hst hB
  go_wp2_with fail
  refine (HO.out w1 ⟨#[]⟩ (by decide)).mono ?_
  rintro e w2 ⟨rfl, hw2⟩
  rw [hw2]
  clear hw2
  go_wp2_with fail
  go_loopw [8, 9] (fun x t wr => ∃ i : Nat, i ≤ len ∧ x = .string (joined f i) ∧ t = .int .i64 (i : Int) ∧ Held St w q (bytesOf (joined f i)) wr) (fun _ t _ => len - (intOf t).toNat)
  case atStart => exact ⟨0, Nat.zero_le _, rfl, rfl, H1.out⟩
  case round =>
    clear H1
    obtain ⟨i, hi, rfl, rfl, hh⟩ := hrel
    have HH : Hid (Held St w q (bytesOf (joined f i)) wr) := hh
    clear hh
    by_cases hlt : i < len
    · obtain rfl := HAO.out (by omega)
      have hs1 := joined_next f i len hlt
      have hs2 := HSU.out
      have hsz : (joined f i).size + (f i).size ≤ 1048576 := by omega
      have hblk : b < w.heap.size := by
        have := World.block_lt_of_cell? w _ (HC.out i hlt)
        simpa using this
      have HCB : Hid (∀ wx, Below w.heap.size w wx → wx.cell? ⟨b, off + i, none⟩ = some (.string (f i))) := fun wx hx => by
        rw [hx.cell (by simpa using hblk)]
        exact HC.out i hlt
      have ci := HCB.out wr HH.out.below
      clear hs1 hs2 hblk
      go_wp2_with fail
      refine (HA.out wr q _ (f i) (by omega) HH.out.st).mono ?_
      rintro e w3 ⟨rfl, h3, ho⟩
      have HB3 : Hid (Below w.heap.size w w3) := HH.out.below.trans (ho.below HQ.out)
      have HS3 : Hid (St w3 q (bytesOf (joined f (i + 1)))) := by
        have e : bytesOf (joined f (i + 1)) = bytesOf (joined f i) ++ bytesOf (f i) := bytesOf_append _ _
        rw [e]
        exact h3
      clear h3 ho
      have c3 := HCB.out w3 HB3.out
      have hj : joined f i ++ f i = joined f (i + 1) := rfl
      have hj2 : (joined f (i + 1)).size ≤ 1048576 := by rw [← hj, ByteArray.size_append]; exact hsz
      go_wp2_with fail
      refine (HO.out w3 (joined f (i + 1)) (by omega)).mono ?_
      rintro e w4 ⟨rfl, hw4⟩
      rw [hw4]
      clear hw4
      go_wp2_with fail
      refine (HV.out w3 q (joined f (i + 1)) HS3.out).mono ?_
      rintro e w5 ⟨rfl, n, rfl⟩
      go_wp2
      go_roundw
      case rel => exact ⟨i + 1, by omega, rfl, by go_num, ⟨HK.out _ _ _ _ HS3.out rfl, Below.drewN_right HB3.out n⟩⟩
      case measure => simp [intOf]; omega
    · go_wp2_with fail
      refine (awake_spec wr (H0.out.below HH.out.below)).mono ?_
      rintro e w5 ⟨rfl, hB⟩
      have HB : Hid (Below w.heap.size w w5) := HH.out.below.trans (hB.mono HH.out.below.size)
      clear hB
      go_wp2
      go_ret
      exact ⟨rfl, HB.out⟩

set_option maxRecDepth 20000 in
set_option maxHeartbeats 800000 in
theorem pieces_none (k : Int) (h8 : ¬ k = 8) (h16 : ¬ k = 16) (h32 : ¬ k = 32) (h33 : ¬ k = 33) (ao : Option Addr) (len cap : Nat) (w : World) (hR : RulesAt w) :
    Calls Tryd.prog 4 #[.slice ao len cap, .int .i64 k] w fun e w' => e = .returned (.bool true) ∧ Below w.heap.size w w' := by
  have H0 : Hid (RulesAt w) := hR
  clear hR
  go_enter Tryd.func4, Tryd.ntmps4
  go_wp2_with fail
  refine (new_none k (fun e => h8 e.symm) (fun e => h16 e.symm) (fun e => h32 e.symm) (fun e => h33 e.symm) w H0.out).mono ?_
  rintro e w1 ⟨rfl, hB⟩
  have H1 : Hid (RulesAt w1) := H0.out.below hB
  have B1 : Hid (Below w.heap.size w w1) := hB
  clear hB
  go_wp2_with fail
  refine (of_none k h8 h16 h32 h33 ⟨#[]⟩ w1).mono ?_
  rintro e w2 ⟨rfl, hw2⟩
  rw [hw2]
  clear hw2
  go_wp2_with fail
  refine (value_nil w1).mono ?_
  rintro e w2 ⟨rfl, hw2⟩
  rw [hw2]
  clear hw2
  go_wp2_with fail
  refine (awake_spec w1 H1.out).mono ?_
  rintro e w3 ⟨rfl, hB⟩
  have B3 : Hid (Below w.heap.size w w3) := H0.out.two B1.out hB
  clear hB
  go_wp2
  go_ret
  exact ⟨rfl, B3.out⟩

/-- Any texts, any kind. -/
theorem pieces_walk (k : Int) (ao : Option Addr) (len cap b off : Nat) (f : Nat → ByteArray) (hlen : len ≤ 9223372036854775807) (hsum : (joined f len).size ≤ 1048576) (w : World) (hR : RulesAt w)
    (hao : 0 < len → ao = some ⟨b, off, none⟩) (hcells : ∀ i, i < len → w.cell? ⟨b, off + i, none⟩ = some (.string (f i))) :
    Calls Tryd.prog 4 #[.slice ao len cap, .int .i64 k] w fun e w' => e = .returned (.bool true) ∧ Below w.heap.size w w' := by
  by_cases h8 : k = 8
  · subst h8
    exact pieces_of 8 (fun w q l => S8 w q (crcL P8 0#32 l).toNat) c8 (fun w hR => new_8 w hR)
      (fun w q l s hs h => (add_high q 8 8 7 0 P8 (crcL P8 0#32 l) s hs w h).mono fun e w' h => ⟨h.1, by rw [crcL_append]; exact h.2.1, h.2.2⟩)
      (fun w q s h => value_8 q (bytesOf s) w h) (fun w s hs => of_8 s hs w) (fun w w' q l h hb => SumAt.kept h hb) ao len cap b off f hlen hsum w hR hao hcells
  · by_cases h16 : k = 16
    · subst h16
      exact pieces_of 16 (fun w q l => S16 w q (crcL P16 0#32 l).toNat) c16 (fun w hR => new_16 w hR)
        (fun w q l s hs h => (add_high q 16 16 32773 0 P16 (crcL P16 0#32 l) s hs w h).mono fun e w' h => ⟨h.1, by rw [crcL_append]; exact h.2.1, h.2.2⟩)
        (fun w q s h => value_16 q (bytesOf s) w h) (fun w s hs => of_16 s hs w) (fun w w' q l h hb => SumAt.kept h hb) ao len cap b off f hlen hsum w hR hao hcells
    · by_cases h32 : k = 32
      · subst h32
        exact pieces_of 32 (fun w q l => S32 w q (crcL p32 0#32 l).toNat) c32 (fun w hR => new_32 w hR)
          (fun w q l s hs h => (add_high q 32 32 79764919 0 p32 (crcL p32 0#32 l) s hs w h).mono fun e w' h => ⟨h.1, by rw [crcL_append]; exact h.2.1, h.2.2⟩)
          (fun w q s h => value_32 q (bytesOf s) w h) (fun w s hs => of_32 s hs w) (fun w w' q l h hb => SumAt.kept h hb) ao len cap b off f hlen hsum w hR hao hcells
      · by_cases h33 : k = 33
        · subst h33
          exact pieces_of 33 (fun w q l => S33 w q (crcR q32 0xFFFFFFFF#32 l).toNat) c33 (fun w hR => new_33 w hR)
            (fun w q l s hs h => (add_low q 33 32 3988292384 4294967295 q32 (crcR q32 0xFFFFFFFF#32 l) s hs w h).mono fun e w' h => ⟨h.1, by rw [crcR_append]; exact h.2.1, h.2.2⟩)
            (fun w q s h => value_33 q (crcR q32 0xFFFFFFFF#32 (bytesOf s)) w h) (fun w s hs => of_33 s hs w) (fun w w' q l h hb => SumAt.kept h hb) ao len cap b off f hlen hsum w hR hao hcells
        · exact pieces_none k h8 h16 h32 h33 ao len cap w hR

/-- How many bytes texts hold together. -/
def sizes (l : List ByteArray) : Nat := (l.map fun s => s.size).sum

theorem joined_sizes (ss : List ByteArray) : ∀ n, n ≤ ss.length → (joined (fun i => ss.getD i ByteArray.empty) n).size = sizes (ss.take n) := by
  intro n
  induction n with
  | zero => intro _; rfl
  | succ n ih =>
    intro h
    have h1 : (joined (fun i => ss.getD i ByteArray.empty) (n + 1)).size = (joined (fun i => ss.getD i ByteArray.empty) n).size + (ss.getD n ByteArray.empty).size := by
      show (joined (fun i => ss.getD i ByteArray.empty) n ++ ss.getD n ByteArray.empty).size = _
      rw [ByteArray.size_append]
    rw [h1, ih (by omega), List.take_succ_eq_append_getElem (by omega)]
    unfold sizes
    rw [List.map_append, List.sum_append, List.getD_eq_getElem?_getD, List.getElem?_eq_getElem (by omega)]
    simp

end Go.Proofs.YtdmgkgomldjnhaaDoor
