/- What the law WalForged keeps besides. No walk. -/
import Derived.Test.YtigaciflbgbolaaKept10
import Derived.Laws.CopyOwn
namespace Go.Proofs.Ytigaciflbgbolaa
open Go.RowKit
set_option linter.unusedVariables false

set_option maxRecDepth 100000 in
theorem mk_zeros (n : Nat) : (madeCells (Value.int .u8 0).cells (n * 1)).toList = bv (List.replicate n 0) := by
  apply List.ext_getElem?
  intro i
  unfold bv
  rw [List.getElem?_map, List.getElem?_replicate]
  by_cases hi : i < n
  · rw [if_pos hi]; simp [madeCells, Value.cells, hi, Nat.mod_one]
  · rw [if_neg hi]; simp [madeCells, Value.cells, hi]
set_option maxRecDepth 100000 in
theorem wpList_make_bytes {ops : Array Oper} {rest : List Oper} {o : Oper} {a : Act} {w : World} {Q : Exit → Act → World → Prop} (hgd : o.guard = none) (l c : Operand) (ho : o.op = .makeSlice 38 l c) (m : Nat) (hl : a.eval l = .int .i64 m) (hc : a.eval c = .int .i64 m) (hm : m ≤ 1000000)
    (h : ∀ v w', Bx (w'.ownsRow w.heap.size 5 1 v m (bv (List.replicate m 0)) ∧ Below w.heap.size w w') → wpList Try.prog ops Q rest (a.put o.dst v) w') : wpList Try.prog ops Q (o :: rest) a w := by
  obtain ⟨i0, hi, hz0, hz1, hz2⟩ := info_parts Try.info5
  refine wpList_make_full w hgd l c 38 ho w.heap.size 5 i0 (.int .u8 0) 1 Try.underlying38 hi hz0 hz1 .i64 .i64 m m m hl hc rfl rfl (by rw [hz2]; omega) (by unfold maxLen; omega) (Nat.le_refl _) (fun w' h1 h2 => h _ w' ⟨?_, (Below.refl _ _).grown h2 (Nat.le_refl _) (by intro k hk; cases hk)⟩)
  rw [mk_zeros] at h1
  exact h1
set_option maxRecDepth 100000 in
theorem Txs.take {w : World} {a : Option Addr} {len cap : Nat} {T : List (List Int)} (h : Txs w a len cap T) (k : Nat) (hk : k ≤ len) : Txs w a k cap (T.take k) :=
  ⟨by rw [List.length_take, h.len_eq]; omega, Nat.le_trans hk h.le_cap, h.cap_le, fun hp => by
    obtain ⟨b, off, e, hlt, hc⟩ := h.spot (by omega)
    refine ⟨b, off, e, hlt, fun i hi => ?_⟩
    rw [show (T.take k).getD i [] = T.getD i [] from by rw [List.getD_eq_getElem?_getD, List.getElem?_take, if_pos hi, ← List.getD_eq_getElem?_getD]]
    exact hc i (by omega)⟩
set_option maxRecDepth 100000 in
/-- an Append of bytes that are the law's -/
theorem dl_appendX (w wr : World) (X : Nat → Prop) (gd gl : Nat) (s : DS) (L : LS) (a : Option Addr) (len cap : Nat) (b : List Int) (h : DL w wr X gd gl s L) (hbt : Bts wr a len cap b) (hfar : 0 < len → ∀ p, a = some p → X p.block) (hO : s.O.length ≤ 900000) :
    Calls Try.prog 15 #[.pointer (some ⟨gl, 0, none⟩), .slice a len cap] wr fun e w' => e = .returned (.int .i64 (apE s L b)) ∧ DL w w' X gd gl (apS s L b) (apL s L b) ∧ XK X wr w' := by
  obtain ⟨ownD, ownL, h1, h2, h3, h4⟩ := h.ex
  refine (append_any gl gd ownD ownL s L a len cap b wr h1 h2 hbt (fun hp p e ho => (h3 _ ho).2 (hfar hp p e)) (fun k hk => (h4 k hk).2.2) hO).mono ?_
  rintro e w' ⟨rfl, ownD', ownL', hD', hL', hdid⟩
  have hs := hdid.kept.size
  have hsl := h.low.size
  refine ⟨rfl, ⟨⟨ownD', ownL', hD', hL', fun k hk => ?_, fun k hk => ?_⟩, h.low.trans (hdid.kept.low (fun k hk => by rcases hk with h5 | h5; exact (h3 k h5).1; exact (h4 k h5).1) hsl), fun k hk => Nat.lt_of_lt_of_le (h.xlt k hk) hs⟩, hs, fun k hk => hdid.kept.block k (h.xlt k hk) (fun ho => by rcases ho with h5 | h5; exact (h3 k h5).2 hk; exact (h4 k h5).2.1 hk)⟩
  · rcases hdid.n1 k hk with h5 | h5
    · exact h3 k h5
    · exact ⟨by omega, fun hX => by have := h.xlt k hX; omega⟩
  · refine ⟨?_, ?_, hdid.dj k hk⟩
    · rcases hdid.n2 k hk with h5 | h5
      · exact (h4 k h5).1
      · omega
    · intro hX
      rcases hdid.n2 k hk with h5 | h5
      · exact (h4 k h5).2.1 hX
      · have := h.xlt k hX; omega
/-- what a crash may leave: all that is wanted, or all but the last -/
def Fin10 (n : Nat) (s : DS) (W : List (List Int)) : Prop := s.F.length = n ∧ s.O.length ≤ n ∧ ∀ K, ∃ T, TOk T ∧ Lay T (app s.F (kpt s.O K)) ∧ (W = T ∨ ∃ x, W = T ++ [x])
set_option maxRecDepth 100000 in
theorem Fin10.rest {n : Nat} {s : DS} {T : List (List Int)} (h : Rest s T) (hn : s.F.length = n) {W : List (List Int)} (hW : W = T ∨ ∃ x, W = T ++ [x]) : Fin10 n s W :=
  ⟨hn, by rw [h.o]; exact Nat.zero_le _, fun K => ⟨T, h.t, by rw [h.o, kpt_nil]; exact h.lay, hW⟩⟩
set_option maxRecDepth 100000 in
/-- the last text, with the power armed: it is told OK, or it went off, or it is refused -/
theorem last_any {n : Nat} {s : DS} {T : List (List Int)} {b : List Int} (h : Rest s T) (hn : s.F.length = n) (hb : Byt b) : Fin10 n (apS s (lgs T) b) (T ++ [b]) := by
  obtain ⟨_, h2, h3⟩ := ap_cases h hb
  rw [hn] at h2
  rcases h3 with ⟨_, e2, _⟩ | ⟨_, _, _, e4, _, e6, e7⟩ | ⟨_, e2, _⟩
  · exact Fin10.rest e2 h2 (.inl rfl)
  · refine ⟨h2, by rw [hn] at e4; exact e4, fun K => ?_⟩
    rcases e7 K with h4 | h4
    · exact ⟨T, h.t, h4, .inr ⟨b, rfl⟩⟩
    · exact ⟨T ++ [b], h.t.snoc e6 hb, h4, .inl rfl⟩
  · rw [e2]; exact Fin10.rest h hn (.inr ⟨b, rfl⟩)
set_option maxRecDepth 100000 in
theorem Fin10.left {n : Nat} {s : DS} {W : List (List Int)} (h : Fin10 n s W) (K : List Bool) : ∃ T, Left n (s.cr K) T [] false T ∧ (W = T ∨ ∃ x, W = T ++ [x]) := by
  obtain ⟨h1, _, h3⟩ := h
  obtain ⟨T, t1, t2, t3⟩ := h3 K
  exact ⟨T, ⟨by show (app s.F (kpt s.O K)).length = n; rw [app_len]; exact h1, rfl, rfl, rfl, t1, t2, .inl rfl⟩, t3⟩
set_option maxRecDepth 100000 in
theorem Left.opened {n : Nat} {s : DS} {S : List (List Int)} {M : List Int} {doubt : Bool} {T : List (List Int)} (h : Left n s S M doubt T) (hok : s.Ok) : s.off = false ∧ s.O.length ≤ 900000 ∧ rdF s.now = some (T, (FrS 0 T).length) ∧ s.wipE (FrS 0 T).length = 0 ∧ Rest (s.wipS (FrS 0 T).length) T ∧ (s.wipS (FrS 0 T).length).F.length = n ∧ (s.wipS (FrS 0 T).length).armed = false := by
  have hrd := h.rd hok
  obtain ⟨h1, h2, h3, h4, h5, h6, _⟩ := h
  refine ⟨h3, by rw [h2]; exact Nat.zero_le _, hrd, ?_⟩
  rcases wip_lay h3 h2 h5 h6 with ⟨b1, b2, b3, b4⟩ | ⟨_, b2, _⟩
  · exact ⟨b1, b2, by rw [b3]; exact h1, b4 h4⟩
  · rw [h4] at b2; cases b2
set_option maxRecDepth 100000 in
/-- an unarmed log at rest never answers ErrPower -/
theorem ap_on {s : DS} {T : List (List Int)} {b : List Int} (h : Rest s T) (hb : Byt b) (ha : s.armed = false) : apE s (lgs T) b ≠ 14 := by
  obtain ⟨_, _, h3⟩ := ap_cases h hb
  rcases h3 with ⟨e1, _⟩ | ⟨_, e2, _⟩ | ⟨e1, _⟩
  · rw [e1]; decide
  · rw [ha] at e2; cases e2
  · rcases e1 with e1 | e1 <;> rw [e1] <;> decide
set_option maxRecDepth 100000 in
theorem TL.z0 {w : World} {own : Nat → Prop} {n c : Nat} {L : List (List Int)} (h : TL w own (.slice none n c) L) : n = 0 ∧ c = 0 := by
  obtain ⟨xs, ho, _⟩ := h.row
  rcases ho.2 with ⟨e, _⟩ | ⟨g, cap, cur, e, _⟩
  · cases e; exact ⟨rfl, rfl⟩
  · cases e
set_option maxRecDepth 100000 in
/-- one text more is wanted -/
theorem want_more {w w10 w11 : World} {X : Nat → Prop} {gd gl : Nat} {s : DS} {L : LS} {v : Value} {W : List (List Int)} {xs : List Value} {a : Option Addr} {n c g cap q : Nat} {l : List Int} (hD : DL w w10 X gd gl s L) (hge : ∀ j, X j → w.heap.size ≤ j) (hta : TA w10 X v W xs) (hq : q = W.length) (hbt : Bts w10 a n c l) (hne : 0 < n → ∀ p, a = some p → X p.block ∧ v.ownBlock ≠ some p.block)
    (ho : w11.ownsRow 0 38 1 (.slice (some ⟨g, 0, none⟩) (q + 1) cap) (q + 1) (xs ++ [.slice a n c])) (hg : (w10.alloc (.cells #[.slice a n c] 38)).grownBy w11 v.ownBlock) (hl : v.ownBlock = some g ∨ g = (w10.alloc (.cells #[.slice a n c] 38)).heap.size) :
    ∃ X2 : Nat → Prop, DL w w11 X2 gd gl s L ∧ TL w11 X2 (.slice (some ⟨g, 0, none⟩) (q + 1) cap) (W ++ [l]) ∧ ∀ j, X2 j → w.heap.size ≤ j := by
  have hsz : (w10.alloc (.cells #[.slice a n c] 38)).heap.size = w10.heap.size + 1 := by simp
  have hgl := (ho.lt g rfl).2
  have hgX : X g ∨ (w10.heap.size ≤ g ∧ g < w11.heap.size) := by
    rcases hl with h1 | h1
    · exact .inl (hta.tl.ob g h1)
    · right; omega
  refine ⟨fun k => X k ∨ k = g, hD.other (app_kept (own := X) (fun k hk => hta.tl.ob k hk) rfl hg) hge (fun k hk => ?_), hta.done hq hbt (fun hp p e => ⟨.inl (hne hp p e).1, (hne hp p e).2⟩) ho hg hl (fun k hk => .inl hk) (.inr rfl), fun j hj => ?_⟩
  · rcases hk with h | h
    · exact .inl h
    · rw [h]; exact hgX
  · rcases hj with h | h
    · exact hge j h
    · rw [h]
      rcases hgX with h2 | h2
      · exact hge _ h2
      · have := hD.low.size; omega
end Go.Proofs.Ytigaciflbgbolaa
