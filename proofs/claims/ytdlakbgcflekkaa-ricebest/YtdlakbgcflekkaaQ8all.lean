/- Own text: Encode and Decode, whole contracts. -/
import Derived.Test.YtdlakbgcflekkaaP8back
namespace Go.Proofs.Ytdlakbgcflekkaa
open Go.RowKit
set_option linter.unusedSimpArgs false
set_option linter.unusedVariables false

theorem rdTop_cut {s : ByteArray} {a : Nat} {b r m o : Int} {a1 : Nat} (h : rdTop s a b r = some (m, o, a1)) : cutOk b r o := by
  unfold rdTop at h
  split at h
  · split at h
    · rename_i h2
      simp only [Option.some.injEq, Prod.mk.injEq] at h
      rw [← h.2.1]; exact h2.2
    · cases h
  · cases h
theorem decode_all (q : Nat) (s : ByteArray) (hs : s.size ≤ 1000000000000000000) (a : Nat) (ha : a ≤ 8 * s.size) (b r : Int) (hok : argOk b r) (w : World) (h : Rd w q s a) :
    Calls Try.prog 21 #[.pointer (some ⟨q, 0, none⟩), .int .i64 b, .int .i64 r] w fun en w' => DPost (decP s a b r) (en = .returned (.tuple #[.slice none 0 0, zRice, .int .i64 2]) ∧ Stays (only q) w w') (fun c L a2 => ∃ gl gp ge, en = .returned (.tuple #[.slice (some ⟨gl, 0, none⟩) L.length L.length, riceV c (some ⟨gp, 0, none⟩) c.P.length (some ⟨ge, 0, none⟩) c.E.length, .int .i64 0]) ∧ IntsBlk w' gl L ∧ IntsBlk w' gp c.P ∧ IntsBlk w' ge c.E ∧ w.heap.size ≤ gl ∧ w.heap.size ≤ gp ∧ w.heap.size ≤ ge ∧ Rd w' q s a2 ∧ a2 ≤ 8 * s.size ∧ Stays (only q) w w') := by
  cases ht : rdTop s a b r with
  | none =>
    refine (decode_top q s hs a ha b r hok w h ht).mono fun e w' hh => ?_
    exact DPost.none_ (by unfold decP; rw [ht]) hh
  | some p =>
    obtain ⟨m, o, a1⟩ := p
    obtain ⟨b', r', o', rfl, rfl, rfl, hC⟩ := Cut.of (rdTop_cut ht)
    exact decode_main q s hs a ha b' o' r' hC m a1 ht hok w h
def encR (c : Rc) (b r : Int) (l : List Int) : Bool := decide (chkOk c b r) && fitB c b.toNat c.o.toNat r.toNat l
theorem encR_yes {c : Rc} {b r : Int} {l : List Int} (h : encR c b r l = true) : ∃ b' o' r' : Nat, b = b' ∧ r = r' ∧ Rok c b' o' r' ∧ fitB c b' o' r' l = true := by
  obtain ⟨h1, h2⟩ := Bool.and_eq_true_iff.1 h
  obtain ⟨b', r', o', rfl, rfl, hk⟩ := Rok.of (of_decide_eq_true h1)
  have e : c.o.toNat = o' := by have := hk.ho; omega
  rw [e] at h2
  exact ⟨b', o', r', rfl, rfl, hk, by simpa using h2⟩
def encN (c : Rc) (b r : Int) (l : List Int) : Int := if encR c b r l then 0 else 60
def encL (c : Rc) (b r : Int) (l : List Int) : List Nat := if encR c b r l then encB c b.toNat r.toNat l else []
theorem encL_01 (c : Rc) (b r : Int) (l : List Int) : Bits01 (encL c b r l) := by unfold encL; split; exact encB_01 _ _ _ _; exact Bits01.nil
theorem encB_room (c : Rc) (b o r : Nat) (hk : Rok c b o r) (l : List Int) (hlen : l.length = b - r) (h5 : l.length ≤ 5000) : (encB c b r l).length ≤ 100000000000 := by
  have hot : c.o.toNat = o := by have := hk.ho; omega
  have h1 := parts_room c hk.m1 hk.cut l hlen (2 ^ o) (Nat.le_refl _) h5
  have h2 := putB_short c.m 2 (by omega)
  have h3 := putB_short c.o 4 (by omega)
  unfold encB
  rw [hot]
  simp only [List.length_append]
  omega
theorem encL_room (c : Rc) (b r : Int) (l : List Int) (h5 : l.length ≤ 5000) : (encL c b r l).length ≤ 100000000000 := by
  unfold encL
  cases hR : encR c b r l with
  | false => simp
  | true =>
    obtain ⟨b', o', r', rfl, rfl, hk, hf⟩ := encR_yes hR
    exact encB_room c b' o' r' hk l ((fitB_iff c b' o' r' l).1 hf).1 h5
theorem encode_all (c : Rc) (l : List Int) (hs : ShX l) (pa : Option Addr) (pc : Nat) (ea : Option Addr) (ec : Nat) (lo : Option Addr) (cap : Nat) (hc : l.length ≤ cap) (h0 : lo = none → cap = 0) (p : Nat) (ao : Option Addr) (B : List Nat) (h01 : Bits01 B) (hB : B.length ≤ 100000000000) (w : World) (hr : RcAt w c pa ea) (hl : IntsAt w lo l) (hw : WrB w p ao B) (a1 : Apart p ao pa c.P) (a2 : Apart p ao ea c.E) (a3 : Apart p ao lo l) (b r : Int) :
    Calls Try.prog 13 #[.pointer (some ⟨p, 0, none⟩), riceV c pa pc ea ec, .int .i64 b, .int .i64 r, .slice lo l.length cap] w fun en w' => en = .returned (.int .i64 (encN c b r l)) ∧ ∃ ao', WrB w' p ao' (B ++ encL c b r l) ∧ Stays (foot p ao) w w' ∧ Moved w.heap.size ao ao' := by
  cases hR : encR c b r l with
  | true =>
    have e1 : encN c b r l = 0 := by unfold encN; rw [hR]; rfl
    have e2 : encL c b r l = encB c b.toNat r.toNat l := by unfold encL; rw [hR]; rfl
    rw [e1, e2]
    obtain ⟨b', o', r', rfl, rfl, hk, hf⟩ := encR_yes hR
    exact encode_ok c l hs pa pc ea ec lo cap hc h0 p ao B h01 hB w hr hl hw a1 a2 a3 b' o' r' hk hf
  | false =>
    have e1 : encN c b r l = 60 := by unfold encN; rw [hR]; rfl
    have e2 : encL c b r l = [] := by unfold encL; rw [hR]; rfl
    rw [e1, e2, List.append_nil]
    have fin : ∀ (e : Ending) (w' : World), e = .returned (.int .i64 60) ∧ Below w.heap.size w w' → e = .returned (.int .i64 60) ∧ ∃ ao', WrB w' p ao' B ∧ Stays (foot p ao) w w' ∧ Moved w.heap.size ao ao' := fun e w' hh => ⟨hh.1, ao, hw.below hh.2, Stays.of_below hh.2 _, Moved.refl _ _⟩
    by_cases hch : chkOk c b r
    · obtain ⟨b', r', o', rfl, rfl, hk⟩ := Rok.of hch
      have e : c.o.toNat = o' := by have := hk.ho; omega
      have hf : fitB c b' o' r' l = false := by
        unfold encR at hR
        rw [decide_eq_true hch, e] at hR
        simpa using hR
      exact (encode_fit c l hs pa pc ea ec lo cap hc h0 p ao B h01 hB w hr hl hw b' o' r' hk hf).mono fin
    · exact (encode_chk c l hs pa pc ea ec lo cap hc h0 p ao B h01 hB w hr hl hw b r hch).mono fin
theorem xenc_all (c : Rc) (l : List Int) (hs : ShX l) (pa : Option Addr) (pc : Nat) (ea : Option Addr) (ec : Nat) (lo : Option Addr) (cap : Nat) (x : Nat) (w : World) (hr : RcAt w c pa ea) (hl : IntsAt w lo l) (ao : Option Addr) (B : List Nat) (hB : B.length ≤ 100000000000) (hw : XwB w x ao B) (b r : Int) :
    Calls Try.prog 14 #[.pointer (some ⟨x, 0, none⟩), riceV c pa pc ea ec, .int .i64 b, .int .i64 r, .slice lo l.length cap] w fun en w' => en = .returned (.int .i64 (encN c b r l)) ∧ ∃ ao', XwB w' x ao' (B ++ encL c b r l) ∧ Stays (foot x ao) w w' ∧ Moved w.heap.size ao ao' := by
  have fin : encR c b r l = false → ∀ (e : Ending) (w' : World), e = .returned (.int .i64 60) ∧ Below w.heap.size w w' → e = .returned (.int .i64 (encN c b r l)) ∧ ∃ ao', XwB w' x ao' (B ++ encL c b r l) ∧ Stays (foot x ao) w w' ∧ Moved w.heap.size ao ao' := fun hR e w' hh => by
    have e1 : encN c b r l = 60 := by unfold encN; rw [hR]; rfl
    have e2 : encL c b r l = [] := by unfold encL; rw [hR]; rfl
    rw [e1, e2, List.append_nil]
    exact ⟨hh.1, ao, hw.below hh.2, Stays.of_below hh.2 _, Moved.refl _ _⟩
  by_cases hch : chkOk c b r
  · obtain ⟨b', r', o', rfl, rfl, hk⟩ := Rok.of hch
    have e : c.o.toNat = o' := by have := hk.ho; omega
    have hRe : encR c b' r' l = fitB c b' o' r' l := by
      unfold encR
      rw [decide_eq_true hch, e]
      simp
    by_cases hlen : l.length = b' - r'
    · refine (xenc_main c l hs pa pc ea ec lo cap x w hr hl ao B hB hw b' o' r' hk hlen).mono fun e w' hh => ?_
      obtain ⟨h1, ao', h2, h3, h4⟩ := hh
      rw [← hRe] at h1 h2
      unfold encN encL
      refine ⟨h1, ao', ?_, h3, h4⟩
      cases hq : encR c b' r' l with
      | true => rw [hq] at h2; exact h2
      | false =>
        rw [hq] at h2
        have h2' : XwB w' x ao' B := h2
        show XwB w' x ao' (B ++ [])
        rw [List.append_nil]; exact h2'
    · refine (xenc_len c l hs pa pc ea ec lo cap x w hr hl b' o' r' hk hlen).mono (fin ?_)
      rw [hRe]
      exact fitB_no (fun hh => hlen hh.1)
  · refine (xenc_chk c l hs pa pc ea ec lo cap x w hr hl b r hch).mono (fin ?_)
    unfold encR
    rw [decide_eq_false hch]
    rfl

end Go.Proofs.Ytdlakbgcflekkaa
