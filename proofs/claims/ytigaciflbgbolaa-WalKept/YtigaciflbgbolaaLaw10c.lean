/- A disk and a log of the law's own, side by side with what the law holds besides. -/
import Derived.Test.YtigaciflbgbolaaLaw10b
namespace Go.Proofs.Ytigaciflbgbolaa
open Go.RowKit
set_option linter.unusedVariables false

/-- what the law holds besides stays -/
def XK (X : Nat → Prop) (w w' : World) : Prop := w.heap.size ≤ w'.heap.size ∧ ∀ k, X k → w'.heap[k]? = w.heap[k]?
set_option maxRecDepth 100000 in
theorem XK.refl (X : Nat → Prop) (w : World) : XK X w w := ⟨Nat.le_refl _, fun _ _ => rfl⟩
set_option maxRecDepth 100000 in
theorem XK.trans {X : Nat → Prop} {a b c : World} (h : XK X a b) (k : XK X b c) : XK X a c := ⟨Nat.le_trans h.1 k.1, fun j hj => (k.2 j hj).trans (h.2 j hj)⟩
/-- the law's disk -/
structure DD (w wr : World) (X : Nat → Prop) (gd : Nat) (s : DS) : Prop where
  ex : ∃ ownD, Dsk wr gd ownD s ∧ (∀ k, ownD k → w.heap.size ≤ k ∧ ¬ X k)
  low : Below w.heap.size w wr
  xlt : ∀ k, X k → k < wr.heap.size
/-- the law's disk and its log -/
structure DL (w wr : World) (X : Nat → Prop) (gd gl : Nat) (s : DS) (L : LS) : Prop where
  ex : ∃ ownD ownL, Dsk wr gd ownD s ∧ Lg wr gl ownL gd L ∧ (∀ k, ownD k → w.heap.size ≤ k ∧ ¬ X k) ∧ (∀ k, ownL k → w.heap.size ≤ k ∧ ¬ X k ∧ ¬ ownD k)
  low : Below w.heap.size w wr
  xlt : ∀ k, X k → k < wr.heap.size
section
variable {w wr w1 : World} {X : Nat → Prop} {gd gl : Nat} {s : DS} {L : LS}
set_option maxRecDepth 100000 in
theorem DL.dd (h : DL w wr X gd gl s L) : DD w wr X gd s := by
  obtain ⟨ownD, ownL, h1, _, h3, _⟩ := h.ex
  exact ⟨⟨ownD, h1, h3⟩, h.low, h.xlt⟩
set_option maxRecDepth 100000 in
theorem DD.ok (h : DD w wr X gd s) : s.Ok := by obtain ⟨o, h1, _⟩ := h.ex; exact h1.ok
set_option maxRecDepth 100000 in
theorem DL.ok (h : DL w wr X gd gl s L) : s.Ok := h.dd.ok
set_option maxRecDepth 100000 in
theorem DD.step (h : DD w wr X gd s) (hb : Below wr.heap.size wr w1) : DD w w1 X gd s := by
  obtain ⟨o, h1, h2⟩ := h.ex
  exact ⟨⟨o, h1.below hb, h2⟩, bstep h.low hb, fun k hk => Nat.lt_of_lt_of_le (h.xlt k hk) hb.size⟩
set_option maxRecDepth 100000 in
theorem DL.step (h : DL w wr X gd gl s L) (hb : Below wr.heap.size wr w1) : DL w w1 X gd gl s L := by
  obtain ⟨ownD, ownL, h1, h2, h3, h4⟩ := h.ex
  exact ⟨⟨ownD, ownL, h1.below hb, h2.below hb, h3, h4⟩, bstep h.low hb, fun k hk => Nat.lt_of_lt_of_le (h.xlt k hk) hb.size⟩
set_option maxRecDepth 100000 in
theorem DL.drewN (h : DL w wr X gd gl s L) (q : Nat) : DL w (wr.drewN q) X gd gl s L := h.step (below_drewN (Below.refl _ _) q)
set_option maxRecDepth 100000 in
theorem DD.drewN (h : DD w wr X gd s) (q : Nat) : DD w (wr.drewN q) X gd s := h.step (below_drewN (Below.refl _ _) q)
set_option maxRecDepth 100000 in
theorem xk_below {w1 : World} (hx : ∀ k, X k → k < wr.heap.size) (hb : Below wr.heap.size wr w1) : XK X wr w1 := ⟨hb.size, fun k hk => hb.block k (hx k hk)⟩
set_option maxRecDepth 100000 in
/-- what the law holds is changed, or more of it: the disk and the log stay -/
theorem DL.other {X2 : Nat → Prop} (h : DL w wr X gd gl s L) (hk : Kept X wr w1) (hx : ∀ k, X k → w.heap.size ≤ k) (hn : ∀ k, X2 k → X k ∨ (wr.heap.size ≤ k ∧ k < w1.heap.size)) : DL w w1 X2 gd gl s L := by
  obtain ⟨ownD, ownL, h1, h2, h3, h4⟩ := h.ex
  have hs := hk.size
  refine ⟨⟨ownD, ownL, h1.kept hk (fun k hk => (h3 k hk).2), h2.kept hk (fun k hk => (h4 k hk).2.1), fun k hk => ⟨(h3 k hk).1, fun hX => ?_⟩, fun k hk => ⟨(h4 k hk).1, fun hX => ?_, (h4 k hk).2.2⟩⟩, h.low.trans (hk.low hx h.low.size), fun k hk2 => ?_⟩
  · rcases hn k hX with h5 | h5
    · exact (h3 k hk).2 h5
    · have := h1.lt k hk; omega
  · rcases hn k hX with h5 | h5
    · exact (h4 k hk).2.1 h5
    · have := h2.lt k hk; omega
  · rcases hn k hk2 with h5 | h5
    · exact Nat.lt_of_lt_of_le (h.xlt k h5) hs
    · exact h5.2
set_option maxRecDepth 100000 in
theorem DD.other {X2 : Nat → Prop} (h : DD w wr X gd s) (hk : Kept X wr w1) (hx : ∀ k, X k → w.heap.size ≤ k) (hn : ∀ k, X2 k → X k ∨ (wr.heap.size ≤ k ∧ k < w1.heap.size)) : DD w w1 X2 gd s := by
  obtain ⟨ownD, h1, h3⟩ := h.ex
  have hs := hk.size
  refine ⟨⟨ownD, h1.kept hk (fun k hk => (h3 k hk).2), fun k hk => ⟨(h3 k hk).1, fun hX => ?_⟩⟩, h.low.trans (hk.low hx h.low.size), fun k hk2 => ?_⟩
  · rcases hn k hX with h5 | h5
    · exact (h3 k hk).2 h5
    · have := h1.lt k hk; omega
  · rcases hn k hk2 with h5 | h5
    · exact Nat.lt_of_lt_of_le (h.xlt k h5) hs
    · exact h5.2
set_option maxRecDepth 100000 in
/-- a call that changes the disk alone -/
theorem DD.did {ownD own' : Nat → Prop} {s' : DS} (h1 : Dsk wr gd ownD s) (h3 : ∀ k, ownD k → w.heap.size ≤ k ∧ ¬ X k) (hlow : Below w.heap.size w wr) (hx : ∀ k, X k → k < wr.heap.size) (hD : Dsk w1 gd own' s') (hd : Did ownD wr w1 own') : DD w w1 X gd s' ∧ XK X wr w1 := by
  have hs := hd.kept.size
  refine ⟨⟨⟨own', hD, fun k hk => ?_⟩, hlow.trans (hd.kept.low (fun k hk => (h3 k hk).1) hlow.size), fun k hk => Nat.lt_of_lt_of_le (hx k hk) hs⟩, hs, fun k hk => hd.kept.block k (hx k hk) (fun ho => (h3 k ho).2 hk)⟩
  rcases hd.new k hk with h5 | h5
  · exact h3 k h5
  · exact ⟨by have := hlow.size; omega, fun hX => by have := hx k hX; omega⟩
end
set_option maxRecDepth 100000 in
theorem dl_append (w wr w3 : World) (X : Nat → Prop) (gd gl : Nat) (s : DS) (L : LS) (a : Option Addr) (len cap : Nat) (b : List Int) (h : DL w wr X gd gl s L) (hb : Below wr.heap.size wr w3) (hbt : Bts w3 a len cap b) (hfar : 0 < len → ∀ p, a = some p → wr.heap.size ≤ p.block) (hO : s.O.length ≤ 900000) :
    Calls Try.prog 15 #[.pointer (some ⟨gl, 0, none⟩), .slice a len cap] w3 fun e w' => e = .returned (.int .i64 (apE s L b)) ∧ DL w w' X gd gl (apS s L b) (apL s L b) ∧ XK X wr w' := by
  obtain ⟨ownD, ownL, h1, h2, h3, h4⟩ := h.ex
  refine (append_any gl gd ownD ownL s L a len cap b w3 (h1.below hb) (h2.below hb) hbt (fun hp p e ho => by have := h1.lt _ ho; have := hfar hp p e; omega) (fun k hk => (h4 k hk).2.2) hO).mono ?_
  rintro e w' ⟨rfl, ownD', ownL', hD', hL', hdid⟩
  have hs := hdid.kept.size
  have hs3 := hb.size
  have hsl := h.low.size
  have hw3 := bstep h.low hb
  refine ⟨rfl, ⟨⟨ownD', ownL', hD', hL', fun k hk => ?_, fun k hk => ?_⟩, hw3.trans (hdid.kept.low (fun k hk => by rcases hk with h5 | h5; exact (h3 k h5).1; exact (h4 k h5).1) hw3.size), fun k hk => Nat.lt_of_lt_of_le (h.xlt k hk) (by omega)⟩, by omega, fun k hk => ?_⟩
  · rcases hdid.n1 k hk with h5 | h5
    · exact h3 k h5
    · exact ⟨by omega, fun hX => by have := h.xlt k hX; omega⟩
  · refine ⟨?_, ?_, hdid.dj k hk⟩
    · rcases hdid.n2 k hk with h5 | h5
      · exact (h4 k h5).1
      · omega
    · intro hX
      rcases hdid.n2 k hk with h5 | h5
      · exact (h4 k h5).2.1 hX
      · have := h.xlt k hX; omega
  · have hkl := h.xlt k hk
    rw [hdid.kept.block k (by omega) (fun ho => by rcases ho with h5 | h5; exact (h3 k h5).2 hk; exact (h4 k h5).2.1 hk)]
    exact hb.block k hkl
set_option maxRecDepth 100000 in
theorem dl_texts (w wr : World) (X : Nat → Prop) (gd gl : Nat) (s : DS) (L : LS) (h : DL w wr X gd gl s L) :
    Calls Try.prog 34 #[.pointer (some ⟨gl, 0, none⟩)] wr fun e w' => ∃ v, e = .returned v ∧ TL w' (fun k => wr.heap.size ≤ k ∧ k < w'.heap.size) v L.T ∧ Below wr.heap.size wr w' := by
  obtain ⟨ownD, ownL, h1, h2, _⟩ := h.ex
  exact texts_any gl gd ownL L wr h2
set_option maxRecDepth 100000 in
theorem dl_next (w wr : World) (X : Nat → Prop) (gd gl : Nat) (s : DS) (L : LS) (h : DL w wr X gd gl s L) :
    Calls Try.prog 33 #[.pointer (some ⟨gl, 0, none⟩)] wr fun e w' => e = .returned (.int .i64 (L.next : Int)) ∧ wr = w' := by
  obtain ⟨ownD, ownL, h1, h2, _⟩ := h.ex
  exact next_any gl gd ownL L wr h2
set_option maxRecDepth 100000 in
theorem dl_room (w wr : World) (X : Nat → Prop) (gd gl : Nat) (s : DS) (L : LS) (h : DL w wr X gd gl s L) (hn : L.next ≤ s.F.length) :
    Calls Try.prog 32 #[.pointer (some ⟨gl, 0, none⟩)] wr fun e w' => e = .returned (.int .i64 (roomV s.F.length L.next)) ∧ Below wr.heap.size wr w' := by
  obtain ⟨ownD, ownL, h1, h2, _⟩ := h.ex
  refine (room_any gl gd ownD ownL s L wr h1 h2 hn).mono ?_
  rintro e w' ⟨rfl, q, rfl⟩
  exact ⟨rfl, below_drewN (Below.refl _ _) q⟩
set_option maxRecDepth 100000 in
theorem dd_arm (w wr : World) (X : Nat → Prop) (gd : Nat) (s : DS) (x : Int) (h : DD w wr X gd s) (hx : x ≤ 9223372036854775807) :
    Calls Try.prog 18 #[.pointer (some ⟨gd, 0, none⟩), .int .i64 x] wr fun e w' => e = .returned (.int .i64 (s.arE x)) ∧ DD w w' X gd (s.ar x) ∧ XK X wr w' := by
  obtain ⟨ownD, h1, h3⟩ := h.ex
  refine (arm_any gd ownD s x wr h1 hx).mono ?_
  rintro e w' ⟨rfl, hD, hK⟩
  exact ⟨rfl, DD.did h1 h3 h.low h.xlt hD (Did.same hK)⟩
set_option maxRecDepth 100000 in
theorem dl_arm (w wr : World) (X : Nat → Prop) (gd gl : Nat) (s : DS) (L : LS) (x : Int) (h : DL w wr X gd gl s L) (hx : x ≤ 9223372036854775807) :
    Calls Try.prog 18 #[.pointer (some ⟨gd, 0, none⟩), .int .i64 x] wr fun e w' => e = .returned (.int .i64 (s.arE x)) ∧ DL w w' X gd gl (s.ar x) L ∧ XK X wr w' := by
  obtain ⟨ownD, ownL, h1, h2, h3, h4⟩ := h.ex
  refine (arm_any gd ownD s x wr h1 hx).mono ?_
  rintro e w' ⟨rfl, hD, hK⟩
  obtain ⟨hdd, hxk⟩ := DD.did h1 h3 h.low h.xlt hD (Did.same hK)
  exact ⟨rfl, ⟨⟨ownD, ownL, hD, h2.kept hK (fun k hk => (h4 k hk).2.2), h3, h4⟩, hdd.low, hdd.xlt⟩, hxk⟩
set_option maxRecDepth 100000 in
theorem dd_crash (w wr : World) (X : Nat → Prop) (gd : Nat) (s : DS) (a : Option Addr) (len cap : Nat) (K : List Bool) (h : DD w wr X gd s) (hK : Bls wr a len cap K) (hfar : 0 < len → ∀ p, a = some p → p.block < w.heap.size) (hO : s.O.length ≤ 1000000) :
    Calls Try.prog 25 #[.pointer (some ⟨gd, 0, none⟩), .slice a len cap] wr fun e w' => e = .returned (.int .i64 0) ∧ DD w w' X gd (s.cr K) ∧ XK X wr w' := by
  obtain ⟨ownD, h1, h3⟩ := h.ex
  refine (crash_any gd ownD s a len cap K wr h1 hK (fun hp p e ho => by have := hfar hp p e; have := (h3 _ ho).1; omega) hO).mono ?_
  rintro e w' ⟨rfl, hD, hKK⟩
  exact ⟨rfl, DD.did h1 h3 h.low h.xlt hD (Did.same hKK)⟩
set_option maxRecDepth 100000 in
/-- Open of a disk that a crash left: it is the log -/
theorem dd_open (w wr : World) (X : Nat → Prop) (gd : Nat) (s : DS) (T : List (List Int)) (h : DD w wr X gd s) (hoff : s.off = false) (hO : s.O.length ≤ 900000) (hr : rdF s.now = some (T, (FrS 0 T).length)) (hE : s.wipE (FrS 0 T).length = 0) :
    Calls Try.prog 12 #[.pointer (some ⟨gd, 0, none⟩)] wr fun e w' => ∃ gl, e = .returned (.tuple #[.pointer (some ⟨gl, 0, none⟩), .int .i64 0]) ∧ DL w w' X gd gl (s.wipS (FrS 0 T).length) (lgs T) ∧ XK X wr w' := by
  obtain ⟨ownD, h1, h3⟩ := h.ex
  refine (wopen_ok gd ownD s wr T (FrS 0 T).length h1 hoff hr hO hE).mono ?_
  rintro e w' ⟨gl, rfl, own', ownL, hD, hdid, hL, hlo, hdj⟩
  obtain ⟨⟨⟨_, _, _⟩, hl2, hx2⟩, hxk⟩ := DD.did h1 h3 h.low h.xlt hD hdid
  refine ⟨gl, rfl, ⟨⟨own', ownL, hD, hL, fun k hk => ?_, fun k hk => ⟨by have := hlo k hk; have := h.low.size; omega, fun hX => by have := h.xlt k hX; have := hlo k hk; omega, hdj k hk⟩⟩, hl2, hx2⟩, hxk⟩
  rcases hdid.new k hk with h5 | h5
  · exact h3 k h5
  · exact ⟨by have := h.low.size; omega, fun hX => by have := h.xlt k hX; omega⟩
set_option maxRecDepth 100000 in
/-- .. or the power goes off -/
theorem dd_open_err (w wr : World) (X : Nat → Prop) (gd : Nat) (s : DS) (T : List (List Int)) (h : DD w wr X gd s) (hoff : s.off = false) (hO : s.O.length ≤ 900000) (hr : rdF s.now = some (T, (FrS 0 T).length)) (hE : s.wipE (FrS 0 T).length ≠ 0) :
    Calls Try.prog 12 #[.pointer (some ⟨gd, 0, none⟩)] wr fun e w' => e = .returned (.tuple #[.pointer none, .int .i64 (s.wipE (FrS 0 T).length)]) ∧ DD w w' X gd (s.wipS (FrS 0 T).length) ∧ XK X wr w' := by
  obtain ⟨ownD, h1, h3⟩ := h.ex
  refine (wopen_err gd ownD s wr T (FrS 0 T).length h1 hoff hr hO hE).mono ?_
  rintro e w' ⟨rfl, own', hD, hdid⟩
  exact ⟨rfl, DD.did h1 h3 h.low h.xlt hD hdid⟩
set_option maxRecDepth 100000 in
theorem dd_new (w wr : World) (n : Nat) (hlow : Below w.heap.size w wr) (h1 : 1 ≤ n) (h2 : n ≤ 4096) :
    Calls Try.prog 10 #[.int .i64 n] wr fun e w' => ∃ g, e = .returned (.tuple #[.pointer (some ⟨g, 0, none⟩), .int .i64 0]) ∧ DD w w' (fun _ => False) g (dnew n) ∧ Below wr.heap.size wr w' := by
  refine (new_any n wr h1 h2).mono ?_
  rintro e w' ⟨g, rfl, hD, hb⟩
  exact ⟨g, rfl, ⟨⟨_, hD, fun k hk => ⟨by have := hlow.size; omega, fun hf => hf⟩⟩, bstep hlow hb, fun k hk => hk.elim⟩, hb⟩
set_option maxRecDepth 100000 in
theorem dd_off (w wr : World) (X : Nat → Prop) (gd : Nat) (s : DS) (h : DD w wr X gd s) :
    Calls Try.prog 35 #[.pointer (some ⟨gd, 0, none⟩)] wr fun e w' => e = .returned (.bool s.off) ∧ wr = w' := by
  obtain ⟨ownD, h1, h3⟩ := h.ex
  exact off_any gd ownD s wr h1
set_option maxRecDepth 100000 in
/-- a log at rest is opened again: both are there -/
theorem dl_open2 (w wr : World) (X : Nat → Prop) (gd gl : Nat) (s : DS) (T : List (List Int)) (h : DL w wr X gd gl s (lgs T)) (hr : Rest s T) :
    Calls Try.prog 12 #[.pointer (some ⟨gd, 0, none⟩)] wr fun e w' => ∃ gq, e = .returned (.tuple #[.pointer (some ⟨gq, 0, none⟩), .int .i64 0]) ∧ DL w w' X gd gl s (lgs T) ∧ DL w w' X gd gq s (lgs T) ∧ XK X wr w' := by
  obtain ⟨ownD, ownL, h1, h2, h3, h4⟩ := h.ex
  refine (wopen_rest gd ownD s wr T h1 hr).mono ?_
  rintro e w' ⟨gq, rfl, own', ownQ, hD, hdid, hL, hlo, hdj⟩
  obtain ⟨⟨_, hl2, hx2⟩, hxk⟩ := DD.did h1 h3 h.low h.xlt hD hdid
  have hsl := h.low.size
  have hnew : ∀ k, own' k → w.heap.size ≤ k ∧ ¬ X k := fun k hk => by
    rcases hdid.new k hk with h5 | h5
    · exact h3 k h5
    · exact ⟨by omega, fun hX => by have := h.xlt k hX; omega⟩
  refine ⟨gq, rfl, ⟨⟨own', ownL, hD, h2.kept hdid.kept (fun k hk => (h4 k hk).2.2), hnew, fun k hk => ⟨(h4 k hk).1, (h4 k hk).2.1, fun ho => ?_⟩⟩, hl2, hx2⟩, ⟨⟨own', ownQ, hD, hL, hnew, fun k hk => ⟨by have := hlo k hk; omega, fun hX => by have := h.xlt k hX; have := hlo k hk; omega, hdj k hk⟩⟩, hl2, hx2⟩, hxk⟩
  rcases hdid.new k ho with h5 | h5
  · exact (h4 k hk).2.2 h5
  · have := h2.lt k hk; omega
set_option maxRecDepth 100000 in
/-- what Room says -/
theorem room_iff {n next len : Nat} (h : next ≤ n) : (len ≤ 16384 ∧ next + ns (20 + len) ≤ n) ↔ (len : Int) ≤ roomV n next := by
  unfold roomV ns
  by_cases h1 : next = n
  · rw [if_pos h1]; constructor
    · rintro ⟨_, h3⟩; omega
    · intro h3; omega
  · rw [if_neg h1]
    by_cases h2 : 16384 < ((n : Int) - next) * 64 - 20
    · rw [if_pos h2]; omega
    · rw [if_neg h2]; omega
set_option maxRecDepth 100000 in
theorem room_mono {n a b : Nat} (h : a ≤ b) (hb : b ≤ n) : roomV n b ≤ roomV n a := by
  unfold roomV
  by_cases h1 : b = n
  · rw [if_pos h1]
    by_cases h2 : a = n
    · rw [if_pos h2]; exact Int.le_refl _
    · rw [if_neg h2]
      by_cases h3 : 16384 < ((n : Int) - a) * 64 - 20
      · rw [if_pos h3]; decide
      · rw [if_neg h3]; omega
  · have h2 : ¬ a = n := by omega
    rw [if_neg h1, if_neg h2]
    by_cases h3 : 16384 < ((n : Int) - b) * 64 - 20
    · have h4 : 16384 < ((n : Int) - a) * 64 - 20 := by omega
      rw [if_pos h3, if_pos h4]; exact Int.le_refl _
    · rw [if_neg h3]
      by_cases h4 : 16384 < ((n : Int) - a) * 64 - 20
      · rw [if_pos h4]; omega
      · rw [if_neg h4]; omega
end Go.Proofs.Ytigaciflbgbolaa
