/- Own text: the document's writer in memory, and the walks of its calls. -/
import Derived.Test.YtfmpiidnemhijaaDoorAwake
namespace Go.Proofs.YtfmpiidnemhijaaDoor
open Go.RowKit
set_option linter.unusedSimpArgs false
set_option linter.unusedVariables false


/-- The document's writer at block x: a slice that owns its bits, a byte each. -/
structure Xw (w : World) (x : Nat) (ao : Option Addr) (cap : Nat) (B : List Nat) : Prop where
  blk : w.heap[x]? = some (.cells #[.slice ao B.length cap] 65 (0, 0))
  own : w.ownsRow 0 5 1 (.slice ao B.length cap) B.length (byteVals B)
  ne : blockOf ao ≠ some x

section
variable {w w' : World} {x : Nat} {ao : Option Addr} {cap : Nat} {B : List Nat}

theorem Xw.c0 (h : Xw w x ao cap B) : w.cell? ⟨x, 0, none⟩ = some (.slice ao B.length cap) := by simp [World.cell?, h.blk]
theorem Xw.f (h : Xw w x ao cap B) (o : Nat) : w.frozen? ⟨x, o, none⟩ = false := by simp [World.frozen?, h.blk]
theorem Xw.lt (h : Xw w x ao cap B) : x < w.heap.size := lt_of_block h.blk

theorem Xw.kept (h : Xw w x ao cap B) (hp : w'.heap[x]? = w.heap[x]?) (ha : ∀ b, blockOf ao = some b → w'.heap[b]? = w.heap[b]?) : Xw w' x ao cap B := by
  refine ⟨by rw [hp]; exact h.blk, ⟨h.own.1, ?_⟩, h.ne⟩
  rcases h.own.2 with h0 | ⟨g, cap', cur, hv, hb, hg, r⟩
  · exact .inl h0
  · refine .inr ⟨g, cap', cur, hv, hb, ?_, r⟩
    simp only [Value.slice.injEq, true_and] at hv
    rw [ha g (by simp [blockOf, hv.1])]
    exact hg

theorem Xw.blocks (h : Xw w x ao cap B) : ∀ b, blockOf ao = some b → b < w.heap.size := by
  intro b hb
  obtain ⟨ao1, cap1, hv, _, _, _, hs⟩ := owns_shape h.own
  simp only [Value.slice.injEq, true_and] at hv
  obtain ⟨rfl, rfl⟩ := hv
  cases ao with
  | none => cases hb
  | some a => cases hb; exact (hs a rfl).2.2

theorem Xw.stays (h : Xw w x ao cap B) {S : Nat → Prop} (hS : Stays S w w') (hp : ¬ S x) (ha : ∀ b, blockOf ao = some b → ¬ S b) : Xw w' x ao cap B :=
  h.kept (hS.block x h.lt hp) (fun b hb => hS.block b (h.blocks b hb) (ha b hb))

theorem Xw.drewN (h : Xw w x ao cap B) (n : Nat) : Xw (w.drewN n) x ao cap B := h.kept rfl (fun _ _ => rfl)

theorem Xw.setSlice (h : Xw w x ao cap B) {ao' : Option Addr} {cap' : Nat} {B' : List Nat} (hg : w.grownBy w' (blockOf ao)) (hm : Moved w.heap.size ao ao') (n' : Nat) (hn : n' = B'.length)
    (hown : w'.ownsRow 0 5 1 (.slice ao' n' cap') n' (byteVals B')) : Xw (w'.setCell ⟨x, 0, none⟩ (.slice ao' n' cap')) x ao' cap' B' := by
  subst hn
  have hne : blockOf ao' ≠ some x := fun e => by
    rcases hm x e with h1 | h1
    · exact h.ne h1
    · have := h.lt; omega
  have hb : w'.heap[x]? = some (.cells #[.slice ao B.length cap] 65 (0, 0)) := by
    rw [hg.block x h.lt (fun e => h.ne e.symm)]; exact h.blk
  refine ⟨?_, ownsRow_setCell_other hown (fun e => hne ?_) _, hne⟩
  · rw [block_setCell w' x 0 _ _ _ hb]
    simp
  · cases ao' with
    | none => simp [Value.ownBlock] at e
    | some a => simpa [Value.ownBlock, blockOf] using e

/-- One bit more. -/
theorem Xw.push (h : Xw w x ao cap B) {v : Nat} {w1 : World} {ao' : Option Addr} {cap' : Nat} (o : Obj)
    (hg : (w.alloc o).grownBy w1 (blockOf ao)) (hm : Moved (w.heap.size + 1) ao ao') (hown : w1.ownsRow 0 5 1 (.slice ao' (B.length + 1) cap') (B.length + 1) (byteVals B ++ [.int .u8 (v : Int)])) :
    Xw (w1.setCell ⟨x, 0, none⟩ (.slice ao' (B.length + 1) cap')) x ao' cap' (B ++ [v]) ∧ Stays (foot x ao) w (w1.setCell ⟨x, 0, none⟩ (.slice ao' (B.length + 1) cap')) ∧ Moved w.heap.size ao ao' := by
  have hX : Xw (w.alloc o) x ao cap B := h.kept (Below.heap_alloc _ _ _ h.lt) (fun b hb => Below.heap_alloc _ _ _ (h.blocks b hb))
  refine ⟨?_, ?_, fun b hb => ?_⟩
  · refine hX.setSlice hg (by simpa using hm) (B.length + 1) (by simp) ?_
    rw [byteVals_append]
    exact hown
  · have s1 : Stays (foot x ao) w w1 := by
      refine Stays.trans (T := foot x ao) (b := w.alloc o) ?_ (Stays.of_grown hg (fun b hb => .inr hb)) (fun i _ h => h)
      exact ⟨rfl, rfl, rfl, by simp, fun i hi _ => Below.heap_alloc _ _ _ hi⟩
    exact s1.setCell _ _ (.inl (.inl rfl))
  · rcases hm b hb with h1 | h1
    · exact .inl h1
    · exact .inr (by omega)

theorem Xw.cells (h : Xw w x ao cap B) (o : Obj) {w1 : World} (hg : (w.alloc o).grownBy w1 (blockOf ao)) :
    w1.cell? ⟨x, 0, none⟩ = some (.slice ao B.length cap) ∧ w1.frozen? ⟨x, 0, none⟩ = false := by
  have hX : Xw (w.alloc o) x ao cap B := h.kept (Below.heap_alloc _ _ _ h.lt) (fun b hb => Below.heap_alloc _ _ _ (h.blocks b hb))
  exact ⟨by rw [World.cell?_of_block (hg.block x hX.lt (fun e => h.ne e.symm)), hX.c0], by rw [World.frozen?_of_block (hg.block x hX.lt (fun e => h.ne e.symm)), hX.f 0]⟩
end

def XwB (w : World) (x : Nat) (ao : Option Addr) (B : List Nat) : Prop := ∃ cap, Xw w x ao cap B

theorem XwB.lt {w : World} {x : Nat} {ao : Option Addr} {B : List Nat} (h : XwB w x ao B) : x < w.heap.size := by obtain ⟨_, h⟩ := h; exact h.lt
theorem XwB.blocks {w : World} {x : Nat} {ao : Option Addr} {B : List Nat} (h : XwB w x ao B) : ∀ b, blockOf ao = some b → b < w.heap.size := by obtain ⟨_, h⟩ := h; exact h.blocks
theorem XwB.stays {w w' : World} {x : Nat} {ao : Option Addr} {B : List Nat} (h : XwB w x ao B) {S : Nat → Prop} (hS : Stays S w w') (hp : ¬ S x) (ha : ∀ b, blockOf ao = some b → ¬ S b) : XwB w' x ao B := by
  obtain ⟨cap, h⟩ := h; exact ⟨cap, h.stays hS hp ha⟩

theorem one_new (w : World) (v : Value) (t : TypeId) : ∀ (j : Nat) (u : Value), [v][j]? = some u → (w.alloc (.cells #[v] t)).cell? ((Addr.mk w.heap.size 0 none).add j) = some u := by
  intro j u hj
  match j, hj with
  | 0, hj => simp at hj; subst hj; exact cell_new w _ t

theorem one_int (k : IntKind) (n : Int) : ∀ u ∈ [Value.int k n], u.oneCell' = true := by intro u hu; simp at hu; subst hu; rfl

theorem put_bit (n j : Nat) (hn : n < 18446744073709551616) : bits BinOp.and IntKind.u64 ((n : Int) / 2 ^ j) 1 = ((n / 2 ^ j % 2 : Nat) : Int) := by
  rw [div_cast]
  have hd : n / 2 ^ j ≤ n := Nat.div_le_self _ _
  have := u64_and_nat (n / 2 ^ j) 1 (by omega) (by decide)
  rw [nat_mask1] at this
  exact this

set_option maxRecDepth 20000 in
set_option maxHeartbeats 1600000 in
theorem refput_ok (x n k : Nat) (hk : k ≤ 64) (hn : n < 2 ^ k) (w : World) (ao : Option Addr) (B : List Nat) (hB : B.length ≤ 1000000000000) (hw : XwB w x ao B) :
    Calls Tryd.prog 24 #[.pointer (some ⟨x, 0, none⟩), .int .u64 (n : Int), .int .i64 (k : Int)] w fun e w' =>
      e = .returned (.int .i64 0) ∧ ∃ ao', XwB w' x ao' (B ++ bitsOf n k) ∧ Stays (foot x ao) w w' ∧ Moved w.heap.size ao ao' := by
  obtain ⟨i0, hi, hz0, hz1, hz2⟩ := info_parts Tryd.info5
  have h64 : n < 18446744073709551616 := Nat.lt_of_lt_of_le hn (pow_le_of k 64 hk)
  have hz : (n : Int) / 2 ^ k = 0 := by
    have : n / 2 ^ k = 0 := Nat.div_eq_of_lt hn
    rw [div_cast, this]; rfl
  by_cases hk64 : (k : Int) < 64
  all_goals
    go_enter Tryd.func24, Tryd.ntmps24
    go_wp2
    go_loopw [7] (fun t wr => ∃ (j : Nat) (ao' : Option Addr) (Bc : List Nat), j ≤ k ∧ t = .int .i64 ((j : Int) - 1) ∧ XwB wr x ao' Bc ∧ Bc ++ bitsOf n j = B ++ bitsOf n k ∧ Stays (foot x ao) w wr ∧ Moved w.heap.size ao ao') (fun t _ => (intOf t + 1).toNat)
    case atStart => exact ⟨k, ao, B, Nat.le_refl _, by go_num, hw, rfl, Stays.refl _ _, Moved.refl _ _⟩
    case round =>
      obtain ⟨j, ao', Bc, hj, rfl, ⟨cap, hX⟩, heq, hS, hM⟩ := hrel
      have hlen : Bc.length + j = B.length + k := by have := congrArg List.length heq; simpa [bitsOf_length] using this
      have hbig : Bc.length ≤ 1000000000064 := by omega
      have HE : Hid (Bc ++ bitsOf n j = B ++ bitsOf n k) := heq
      clear heq hlen hB hw hz hn
      by_cases h0 : 0 < j
      · obtain ⟨m, rfl⟩ : ∃ m, j = m + 1 := ⟨j - 1, by omega⟩
        have hbit := put_bit n m h64
        have hb2 : n / 2 ^ m % 2 < 2 := Nat.mod_lt _ (by decide)
        obtain ⟨v, hv⟩ : ∃ v, v = n / 2 ^ m % 2 := ⟨_, rfl⟩
        rw [← hv] at hbit hb2
        have HV : Hid _ := hv
        clear hv
        have c0 := hX.c0
        have hown := hX.own
        have f0 := hX.f 0
        rw [show (((m + 1 : Nat) : Int) - 1) = (m : Int) from by omega]
        go_wp2_with (at_builtin; refine wpList_append_mine _ rfl _ _ 63 rfl 5 i0 (.int .u8 0) 1 Tryd.underlying63 hi hz0 hz1 hz2 rfl ao' cap Bc.length _ rfl (owns_alloc hown _) ⟨wr.heap.size, 0, none⟩ 1 1 [.int .u8 (v : Int)] rfl rfl (one_new _ _ _) (one_int _ _) ?cc ?cd ?ce)
        case cc => unfold maxLen; omega
        case cd => omega
        case ce =>
          intro ao2 cap2 w1 hown2 hgr hmv
          have hP := hX.push _ hgr (by simpa using hmv) hown2
          have hC := hX.cells _ hgr
          obtain ⟨q0, qf⟩ := hC
          clear hown2 hgr hmv c0 hown f0 hX
          go_wp2
          go_roundw
          case rel =>
            refine ⟨m, ao2, Bc ++ [v], by omega, by go_num, ⟨cap2, hP.1⟩, ?_, hS.foot hP.2.1 hM, hM.trans hP.2.2 hS.size⟩
            have e := HE.out
            rw [bitsOf, ← HV.out] at e
            rw [List.append_assoc]
            exact e
          case measure => simp only [intOf]; omega
      · obtain rfl : j = 0 := by omega
        go_wp2
        go_ret
        refine ⟨rfl, ao', ⟨cap, ?_⟩, hS, hM⟩
        have := HE.out
        simp only [bitsOf, List.append_nil] at this
        rw [← this]
        exact hX

theorem refput_bad (x : Nat) (n k : Int) (hn : 0 ≤ n) (hn2 : n < 18446744073709551616) (hbad : k < 0 ∨ 64 < k ∨ (0 ≤ k ∧ k ≤ 64 ∧ 2 ^ k.toNat ≤ n)) (w : World) :
    Calls Tryd.prog 24 #[.pointer (some ⟨x, 0, none⟩), .int .u64 n, .int .i64 k] w fun e w' => e = .returned (.int .i64 11) ∧ w' = w := by
  rcases hbad with h | h | ⟨h1, h2, h3⟩
  · go_enter Tryd.func24, Tryd.ntmps24
    go_wp2
    go_ret
    exact ⟨rfl, rfl⟩
  · go_enter Tryd.func24, Tryd.ntmps24
    go_wp2
    go_ret
    exact ⟨rfl, rfl⟩
  · have hk64 : k < 64 := by
      rcases Int.lt_or_le k 64 with h | h
      · exact h
      · obtain rfl : k = 64 := by omega
        have : (2 : Int) ^ (64 : Int).toNat = 18446744073709551616 := by decide
        omega
    have hp : 0 < (2 : Int) ^ k.toNat := Int.pow_pos (by decide)
    have hq : 1 ≤ n / 2 ^ k.toNat := Int.le_ediv_of_mul_le hp (by omega)
    have hz : (n / 2 ^ k.toNat != 0) = true := by simp; omega
    clear hq hp h2
    go_enter Tryd.func24, Tryd.ntmps24
    go_wp2
    go_ret
    exact ⟨rfl, rfl⟩

/-- How many bits the document's writer has. -/
def lenOf (w : World) (x : Nat) : Nat := match w.cell? ⟨x, 0, none⟩ with
  | some (.slice _ n _) => n
  | _ => 0

theorem lenOf_eq {w : World} {x : Nat} {ao : Option Addr} {cap : Nat} {B : List Nat} (h : Xw w x ao cap B) : lenOf w x = B.length := by
  unfold lenOf
  rw [h.c0]

end Go.Proofs.YtfmpiidnemhijaaDoor
