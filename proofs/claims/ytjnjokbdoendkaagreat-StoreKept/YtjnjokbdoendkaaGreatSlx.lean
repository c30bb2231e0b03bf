/- What is sure of a store behind crashes, and what may be besides. No walk. The law's disk alone; a crash, and the store opened anew. The store of the law StoreKept with what it is sure of, step by step. -/
import Derived.Test.YtjnjokbdoendkaaGreatSlw
import Derived.Deep.CutBlock
namespace Go.Proofs.YtjnjokbdoendkaaGreat
open Go.RowKit
set_option linter.unusedVariables false

/-- what a life is between two calls -/
def Inv (n : Nat) (s : DS) (S : List (List Int)) (M : List Int) (doubt : Bool) (L : LS) : Prop := s.F.length = n ∧ s.O.length ≤ n ∧
  ((doubt = false ∧ Rest s S ∧ L = lgs S) ∨ (doubt = true ∧ s.off = true ∧ L = ⟨S, (FrS 0 S).length, true⟩ ∧ TOk (S ++ [M]) ∧ ∀ K, Lay S (app s.F (kpt s.O K)) ∨ Lay (S ++ [M]) (app s.F (kpt s.O K))))
/-- what a crash leaves of it -/
def Left (n : Nat) (s : DS) (S : List (List Int)) (M : List Int) (doubt : Bool) (T : List (List Int)) : Prop := s.F.length = n ∧ s.O = [] ∧ s.off = false ∧ s.armed = false ∧ TOk T ∧ Lay T s.F ∧ (T = S ∨ (doubt = true ∧ T = S ++ [M]))
set_option maxRecDepth 100000 in
theorem kpt_nil (K : List Bool) : kpt [] K = [] := by cases K <;> rfl
set_option maxRecDepth 100000 in
theorem Inv.left {n : Nat} {s : DS} {S : List (List Int)} {M : List Int} {doubt : Bool} {L : LS} (h : Inv n s S M doubt L) (K : List Bool) : ∃ T, Left n (s.cr K) S M doubt T := by
  obtain ⟨h1, _, h2⟩ := h
  have hF : (s.cr K).F.length = n := by show (app s.F (kpt s.O K)).length = n; rw [app_len]; exact h1
  rcases h2 with ⟨d, hr, _⟩ | ⟨d, _, _, ht, hl⟩
  · refine ⟨S, hF, rfl, rfl, rfl, hr.t, ?_, .inl rfl⟩
    show Lay S (app s.F (kpt s.O K))
    rw [hr.o, kpt_nil]; exact hr.lay
  · rcases hl K with h3 | h3
    · exact ⟨S, hF, rfl, rfl, rfl, fun t ht' => ht t (List.mem_append_left _ ht'), h3, .inl rfl⟩
    · exact ⟨S ++ [M], hF, rfl, rfl, rfl, ht, h3, .inr ⟨d, rfl⟩⟩
set_option maxRecDepth 100000 in
theorem Left.rd {n : Nat} {s : DS} {S : List (List Int)} {M : List Int} {doubt : Bool} {T : List (List Int)} (h : Left n s S M doubt T) (hok : s.Ok) : rdF s.now = some (T, (FrS 0 T).length) := by
  obtain ⟨_, h2, _, _, h5, h6, _⟩ := h
  have : s.now = s.F := by unfold DS.now; rw [h2]; rfl
  rw [this]; exact rd_lay hok.f h6 h5 hok.n2
set_option maxRecDepth 100000 in
theorem Inv.append {n : Nat} {s : DS} {S : List (List Int)} {M b : List Int} {doubt : Bool} {L : LS} (h : Inv n s S M doubt L) (hb : Byt b) :
    (apE s L b = 0 ∧ doubt = false ∧ Inv n (apS s L b) (S ++ [b]) M false (apL s L b)) ∨
    (apE s L b = 14 ∧ doubt = false ∧ Inv n (apS s L b) S b true (apL s L b)) ∨
    ((apE s L b = 5 ∨ apE s L b = 11 ∨ (apE s L b = 14 ∧ doubt = true)) ∧ Inv n (apS s L b) S M doubt (apL s L b)) := by
  obtain ⟨h1, h2, h3⟩ := h
  rcases h3 with ⟨d, hr, hL⟩ | ⟨d, ho, hL, ht, hl⟩
  · subst hL
    obtain ⟨_, a2, a3⟩ := ap_cases hr hb
    rw [h1] at a2
    rcases a3 with ⟨e1, e2, e3, _, _⟩ | ⟨e1, _, e3, e4, e5, e6, e7⟩ | ⟨e1, e2, e3, _⟩
    · exact .inl ⟨e1, d, a2, by rw [e2.o]; exact Nat.zero_le _, .inl ⟨rfl, e2, e3⟩⟩
    · exact .inr (.inl ⟨e1, d, a2, by rw [h1] at e4; exact e4, .inr ⟨rfl, e3, e5, hr.t.snoc e6 hb, e7⟩⟩)
    · refine .inr (.inr ⟨?_, ?_⟩)
      · rcases e1 with e1 | e1
        · exact .inl e1
        · exact .inr (.inl e1)
      · rw [e2, e3]; exact ⟨h1, h2, .inl ⟨d, hr, rfl⟩⟩
  · have hgo : L.go s b = false := by unfold LS.go; rw [hL]; simp
    obtain ⟨e1, e2⟩ := ap_no hgo
    rw [e1, e2]
    refine .inr (.inr ⟨?_, h1, h2, .inr ⟨d, ho, hL, ht, hl⟩⟩)
    unfold apE
    by_cases g1 : 16384 < b.length
    · rw [if_pos g1]; exact .inl rfl
    · rw [if_neg g1]
      by_cases g2 : s.F.length < L.next + ns (20 + b.length)
      · rw [if_pos g2]; exact .inr (.inl rfl)
      · rw [if_neg g2, hL]; exact .inr (.inr ⟨rfl, d⟩)
set_option maxRecDepth 100000 in
theorem ar_same (s : DS) (x : Int) : (s.ar x).F = s.F ∧ (s.ar x).O = s.O ∧ (s.ar x).off = s.off := by
  unfold DS.ar
  split
  · exact ⟨rfl, rfl, rfl⟩
  · split <;> exact ⟨rfl, rfl, rfl⟩
set_option maxRecDepth 100000 in
theorem Inv.arm {n : Nat} {s : DS} {S : List (List Int)} {M : List Int} {doubt : Bool} {L : LS} (h : Inv n s S M doubt L) (x : Int) : Inv n (s.ar x) S M doubt L := by
  obtain ⟨h1, h2, h3⟩ := h
  obtain ⟨e1, e2, e3⟩ := ar_same s x
  refine ⟨by rw [e1]; exact h1, by rw [e2]; exact h2, ?_⟩
  rcases h3 with ⟨d, hr, hL⟩ | ⟨d, ho, hL, ht, hl⟩
  · exact .inl ⟨d, hr.ar x, hL⟩
  · refine .inr ⟨d, by rw [e3]; exact ho, hL, ht, ?_⟩
    rw [e1, e2]; exact hl
set_option maxRecDepth 100000 in
theorem Inv.rest {n : Nat} {s : DS} {S : List (List Int)} {M : List Int} (h1 : Rest s S) (h2 : s.F.length = n) : Inv n s S M false (lgs S) := ⟨h2, by rw [h1.o]; exact Nat.zero_le _, .inl ⟨rfl, h1, rfl⟩⟩
set_option maxRecDepth 100000 in
/-- the power is armed, it is opened, and perhaps it goes off: what a crash leaves then -/
theorem Left.open {n : Nat} {s : DS} {S : List (List Int)} {M : List Int} {doubt : Bool} {T : List (List Int)} (h : Left n s S M doubt T) (x : Int) (hok : (s.ar x).Ok) :
    (s.ar x).off = false ∧ (s.ar x).O.length ≤ 900000 ∧ rdF (s.ar x).now = some (T, (FrS 0 T).length) ∧ ((s.ar x).wipE (FrS 0 T).length = 0 ∨ (s.ar x).wipE (FrS 0 T).length = 14) ∧ ((s.ar x).wipS (FrS 0 T).length).O.length ≤ n ∧ ∀ K, Left n (((s.ar x).wipS (FrS 0 T).length).cr K) S M doubt T := by
  obtain ⟨h1, h2, h3, _, h5, h6, h7⟩ := h
  obtain ⟨e1, e2, e3⟩ := ar_same s x
  have a1 : (s.ar x).off = false := by rw [e3]; exact h3
  have a2 : (s.ar x).O = [] := by rw [e2]; exact h2
  have a3 : Lay T (s.ar x).F := by rw [e1]; exact h6
  have hnow : (s.ar x).now = (s.ar x).F := by unfold DS.now; rw [a2]; rfl
  refine ⟨a1, by rw [a2]; exact Nat.zero_le _, by rw [hnow]; exact rd_lay hok.f a3 h5 hok.n2, ?_⟩
  have hn : (s.ar x).F.length = n := by rw [e1]; exact h1
  rcases wip_lay a1 a2 h5 a3 with ⟨b1, b2, b3, _⟩ | ⟨b1, _, b3, b4, b5, b6⟩
  · refine ⟨.inl b1, by rw [b2.o]; exact Nat.zero_le _, fun K => ⟨?_, rfl, rfl, rfl, h5, ?_, h7⟩⟩
    · show (app _ _).length = n
      rw [app_len, b3]; exact hn
    · show Lay T (app _ (kpt _ K))
      rw [b2.o, kpt_nil]; exact b2.lay
  · refine ⟨.inr b1, by rw [hn] at b5; exact b5, fun K => ⟨?_, rfl, rfl, rfl, h5, b6 K, h7⟩⟩
    show (app _ _).length = n
    rw [app_len, b4]; exact hn
set_option maxRecDepth 100000 in
theorem left_new (n : Nat) : Left n (dnew n) [] [] false [] := ⟨by simp [dnew], rfl, rfl, rfl, TOk.nil, ⟨Zs n, rfl, Zs_hd n⟩, .inl rfl⟩
set_option maxRecDepth 100000 in
theorem bls_far {w : World} {a : Option Addr} {len cap m : Nat} {K : List Bool} (h : Bls w a len cap K) (hm : m ≤ len) : 0 < m → ∀ p, a = some p → p.block < w.heap.size := fun hp p e => by
  obtain ⟨b, off, e2, hlt, _⟩ := h.spot (by omega)
  rw [e2] at e; cases e; exact hlt
set_option maxRecDepth 100000 in
/-- one text more -/
theorem mk_snoc {T : List (List Int)} {l : List Chg} (hc : chkL l = 0) (hb : ∀ c ∈ l, Byt c.val) : mkM (T ++ [encL l]) = doM (mkM T) l := by
  unfold mkM
  rw [List.foldl_append, List.foldl_cons, List.foldl_nil]
  unfold bkM
  rw [dec_enc hc]
set_option maxRecDepth 100000 in
theorem tdec_snoc {T : List (List Int)} {l : List Chg} (h : TDec T) (hc : chkL l = 0) (hb : ∀ c ∈ l, Byt c.val) : TDec (T ++ [encL l]) := fun b hm => by
  rcases List.mem_append.1 hm with h1 | h1
  · exact h b h1
  · obtain rfl : b = encL l := by simpa using h1
    rw [dec_enc hc]; rfl
/-- a store between two calls -/
structure KI (n : Nat) (s : DS) (L : LS) (M : List Pr) (T : List (List Int)) (b : List Int) (doubt : Bool) : Prop where
  i : Inv n s T b doubt L
  m : M = mkM T
  d : TDec T
  e : doubt = true → TDec (T ++ [b])
set_option maxRecDepth 100000 in
/-- a commit -/
theorem KI.commit {n : Nat} {s : DS} {L : LS} {M : List Pr} {T : List (List Int)} {b : List Int} {doubt : Bool} (h : KI n s L M T b doubt) (q : Int) (l : List Chg) (hb : ∀ c ∈ l, Byt c.val) :
    (coE s L q M l = 0 ∧ doubt = false ∧ LOk l ∧ KI n (coS s L q M l) (coL s L q M l) (coM s L q M l) (T ++ [encL l]) b false ∧ coM s L q M l = doM M l) ∨
    (coE s L q M l = 14 ∧ doubt = false ∧ LOk l ∧ KI n (coS s L q M l) (coL s L q M l) (coM s L q M l) T (encL l) true ∧ coM s L q M l = M ∧ mkM (T ++ [encL l]) = doM M l) ∨
    (coE s L q M l ≠ 0 ∧ (coE s L q M l = 14 → doubt = true) ∧ KI n (coS s L q M l) (coL s L q M l) (coM s L q M l) T b doubt ∧ coM s L q M l = M) := by
  by_cases hc : chkL l = 0
  · have hok := chkL_ok hc
    cases hn : coN q M l with
    | false =>
      have eS : coS s L q M l = s := by unfold coS; rw [hn]; rfl
      have eL : coL s L q M l = L := by unfold coL; rw [hn]; rfl
      have eM : coM s L q M l = M := by unfold coM; rw [hn]; rfl
      rw [coE_q hc hn, eS, eL, eM]
      exact .inr (.inr ⟨by decide, (fun e => by cases e), h, rfl⟩)
    | true =>
      have eS : coS s L q M l = apS s L (encL l) := by unfold coS; rw [hn]; rfl
      have eL : coL s L q M l = apL s L (encL l) := by unfold coL; rw [hn]; rfl
      rw [coE_a hc hn, eS, eL]
      rcases h.i.append (encL_byt hok hb) with ⟨g1, g2, g3⟩ | ⟨g1, g2, g3⟩ | ⟨g1, g3⟩
      · have eM : coM s L q M l = doM M l := by unfold coM; rw [if_pos ⟨hn, g1⟩]
        rw [eM]
        refine .inl ⟨g1, g2, hok, ⟨?_, by rw [mk_snoc hc hb, h.m], tdec_snoc h.d hc hb, fun e => by cases e⟩, rfl⟩
        exact g3
      · have eM : coM s L q M l = M := by unfold coM; rw [if_neg (fun hh => by rw [g1] at hh; exact absurd hh.2 (by decide))]
        rw [eM]
        exact .inr (.inl ⟨g1, g2, hok, ⟨g3, h.m, h.d, fun _ => tdec_snoc h.d hc hb⟩, rfl, by rw [mk_snoc hc hb, h.m]⟩)
      · have hne : apE s L (encL l) ≠ 0 := by rcases g1 with g | g | g <;> first | (rw [g]; decide) | (rw [g.1]; decide)
        have eM : coM s L q M l = M := by unfold coM; rw [if_neg (fun hh => hne hh.2)]
        rw [eM]
        refine .inr (.inr ⟨hne, fun e => ?_, ⟨g3, h.m, h.d, h.e⟩, rfl⟩)
        rcases g1 with g | g | g
        · rw [g] at e; cases e
        · rw [g] at e; cases e
        · exact g.2
  · have hbad := coN_bad (q := q) (M := M) hc
    have eS : coS s L q M l = s := by unfold coS; rw [hbad]; rfl
    have eL : coL s L q M l = L := by unfold coL; rw [hbad]; rfl
    have eM : coM s L q M l = M := by unfold coM; rw [hbad]; rfl
    rw [coE_bad hc, eS, eL, eM]
    refine .inr (.inr ⟨hc, fun e => ?_, h, rfl⟩)
    have h14 := chkL_cases l
    rw [e] at h14
    rcases h14 with h1 | h1 | h1 | h1 <;> cases h1
set_option maxRecDepth 100000 in
theorem KI.arm {n : Nat} {s : DS} {L : LS} {M : List Pr} {T : List (List Int)} {b : List Int} {doubt : Bool} (h : KI n s L M T b doubt) (x : Int) : KI n (s.ar x) L M T b doubt := ⟨h.i.arm x, h.m, h.d, h.e⟩
set_option maxRecDepth 100000 in
/-- behind a crash -/
theorem KI.left {n : Nat} {s : DS} {L : LS} {M : List Pr} {T : List (List Int)} {b : List Int} {doubt : Bool} (h : KI n s L M T b doubt) (K : List Bool) : ∃ T2, Left n (s.cr K) T b doubt T2 ∧ TDec T2 := by
  obtain ⟨T2, h1⟩ := h.i.left K
  refine ⟨T2, h1, ?_⟩
  rcases h1.2.2.2.2.2.2 with h2 | ⟨h2, h3⟩
  · rw [h2]; exact h.d
  · rw [h3]; exact h.e h2
end Go.Proofs.YtjnjokbdoendkaaGreat
namespace Go.Proofs.YtjnjokbdoendkaaGreat
open Go.RowKit
set_option linter.unusedVariables false

/-- the law's disk -/
structure DD (w wr : World) (X : Nat → Prop) (gd : Nat) (s : DS) : Prop where
  ex : ∃ ownD, Dsk wr gd ownD s ∧ (∀ k, ownD k → w.heap.size ≤ k ∧ ¬ X k)
  low : Below w.heap.size w wr
  xlt : ∀ k, X k → k < wr.heap.size
section
variable {w wr w1 : World} {X : Nat → Prop} {gd : Nat} {s : DS}
set_option maxRecDepth 100000 in
theorem DD.ok (h : DD w wr X gd s) : s.Ok := by obtain ⟨o, h1, _⟩ := h.ex; exact h1.ok
set_option maxRecDepth 100000 in
theorem DD.step (h : DD w wr X gd s) (hb : Below wr.heap.size wr w1) : DD w w1 X gd s := by
  obtain ⟨o, h1, h2⟩ := h.ex
  exact ⟨⟨o, h1.below hb, h2⟩, bstep h.low hb, fun k hk => Nat.lt_of_lt_of_le (h.xlt k hk) hb.size⟩
set_option maxRecDepth 100000 in
/-- a call that changes the disk alone -/
theorem DD.did {ownD own' : Nat → Prop} {s' : DS} (h1 : Dsk wr gd ownD s) (h3 : ∀ k, ownD k → w.heap.size ≤ k ∧ ¬ X k) (hlow : Below w.heap.size w wr) (hx : ∀ k, X k → k < wr.heap.size) (hD : Dsk w1 gd own' s') (hd : Did ownD wr w1 own') : DD w w1 X gd s' ∧ XK X wr w1 := by
  have hs := hd.kept.size
  refine ⟨⟨⟨own', hD, fun k hk => ?_⟩, hlow.trans (hd.kept.low (fun k hk => (h3 k hk).1) hlow.size), fun k hk => Nat.lt_of_lt_of_le (hx k hk) hs⟩, hs, fun k hk => hd.kept.block k (hx k hk) (fun ho => (h3 k ho).2 hk)⟩
  rcases hd.new k hk with h5 | h5
  · exact h3 k h5
  · exact ⟨by have := hlow.size; omega, fun hX => by have := hx k hX; omega⟩
end
set_option maxRecDepth 100000 in
theorem dd_arm (w wr : World) (X : Nat → Prop) (gd : Nat) (s : DS) (x : Int) (h : DD w wr X gd s) (hx : x ≤ 9223372036854775807) :
    Calls Tryz.prog 17 #[.pointer (some ⟨gd, 0, none⟩), .int .i64 x] wr fun e w' => e = .returned (.int .i64 (s.arE x)) ∧ DD w w' X gd (s.ar x) ∧ XK X wr w' := by
  obtain ⟨ownD, h1, h3⟩ := h.ex
  refine (arm_any gd ownD s x wr h1 hx).mono ?_
  rintro e w' ⟨rfl, hD, hK⟩
  exact ⟨rfl, DD.did h1 h3 h.low h.xlt hD (Did.same hK)⟩
set_option maxRecDepth 100000 in
theorem dd_crash (w wr : World) (X : Nat → Prop) (gd : Nat) (s : DS) (a : Option Addr) (len cap : Nat) (K : List Bool) (h : DD w wr X gd s) (hK : Bls wr a len cap K) (hfar : 0 < len → ∀ p, a = some p → p.block < w.heap.size) (hO : s.O.length ≤ 1000000) :
    Calls Tryz.prog 19 #[.pointer (some ⟨gd, 0, none⟩), .slice a len cap] wr fun e w' => e = .returned (.int .i64 0) ∧ DD w w' X gd (s.cr K) ∧ XK X wr w' := by
  obtain ⟨ownD, h1, h3⟩ := h.ex
  refine (crash_any gd ownD s a len cap K wr h1 hK (fun hp p e ho => by have := hfar hp p e; have := (h3 _ ho).1; omega) hO).mono ?_
  rintro e w' ⟨rfl, hD, hKK⟩
  exact ⟨rfl, DD.did h1 h3 h.low h.xlt hD (Did.same hKK)⟩
set_option maxRecDepth 100000 in
theorem dd_new (w wr : World) (n : Nat) (hlow : Below w.heap.size w wr) (h1 : 1 ≤ n) (h2 : n ≤ 4096) :
    Calls Tryz.prog 9 #[.int .i64 n] wr fun e w' => ∃ g, e = .returned (.tuple #[.pointer (some ⟨g, 0, none⟩), .int .i64 0]) ∧ DD w w' (fun _ => False) g (dnew n) ∧ Below wr.heap.size wr w' := by
  refine (new_any n wr h1 h2).mono ?_
  rintro e w' ⟨g, rfl, hD, hb⟩
  exact ⟨g, rfl, ⟨⟨_, hD, fun k hk => ⟨by have := hlow.size; omega, fun hf => hf⟩⟩, bstep hlow hb, fun k hk => hk.elim⟩, hb⟩
set_option maxRecDepth 100000 in
/-- what is left of a store: its disk -/
theorem DT.dd {w wr : World} {X : Nat → Prop} {gd gl gs : Nat} {s : DS} {L : LS} {q : Int} {M : List Pr} (h : DT w wr X gd gl gs s L q M) : DD w wr X gd s := by
  obtain ⟨oD, oL, oS, h1, h2⟩ := h.ex
  exact ⟨⟨oD, h1.d, fun k hk => h2 k (.inl hk)⟩, h.low, h.xlt⟩
set_option maxRecDepth 100000 in
theorem dt_arm (w wr : World) (X : Nat → Prop) (gd gl gs : Nat) (s : DS) (L : LS) (q : Int) (M : List Pr) (x : Int) (h : DT w wr X gd gl gs s L q M) (hx : x ≤ 9223372036854775807) :
    Calls Tryz.prog 17 #[.pointer (some ⟨gd, 0, none⟩), .int .i64 x] wr fun e w' => e = .returned (.int .i64 (s.arE x)) ∧ DT w w' X gd gl gs (s.ar x) L q M ∧ XK X wr w' := by
  obtain ⟨oD, oL, oS, h1, h2⟩ := h.ex
  refine (arm_any gd oD s x wr h1.d hx).mono ?_
  rintro e w' ⟨rfl, hD, hK⟩
  obtain ⟨hdd, hxk⟩ := DD.did h1.d (fun k hk => h2 k (.inl hk)) h.low h.xlt hD (Did.same hK)
  exact ⟨rfl, ⟨⟨oD, oL, oS, ⟨hD, h1.l.kept hK (fun k hk => h1.ld k hk), h1.t.kept hK (fun k hk => h1.sd k hk), h1.ld, h1.sd, h1.sl⟩, h2⟩, hdd.low, hdd.xlt⟩, hxk⟩
set_option maxRecDepth 100000 in
/-- Open of a disk that a crash left: it is the store -/
theorem dd_sopen (w wr : World) (X : Nat → Prop) (gd : Nat) (s : DS) (q : Int) (T : List (List Int)) (h : DD w wr X gd s) (hq : ¬ q < 0) (hoff : s.off = false) (hO : s.O.length ≤ 900000) (hr : rdF s.now = some (T, (FrS 0 T).length)) (hE : s.wipE (FrS 0 T).length = 0) (hd : TDec T) :
    Calls Tryz.prog 11 #[.pointer (some ⟨gd, 0, none⟩), .int .i64 q] wr fun e w' => ∃ gs gl, e = .returned (.tuple #[.pointer (some ⟨gs, 0, none⟩), .int .i64 0]) ∧ DT w w' X gd gl gs (s.wipS (FrS 0 T).length) (lgs T) q (mkM T) ∧ XK X wr w' := by
  obtain ⟨ownD, h1, h3⟩ := h.ex
  refine (sopen_ok gd ownD s q wr T (FrS 0 T).length hq h1 hoff hr hO hE).mono ?_
  rintro e w' (⟨_, gs, gl, oD, oL, oS, rfl, hT, hdid, hlo, hso⟩ | ⟨hn, _⟩)
  · obtain ⟨hdd, hxk⟩ := DD.did h1 h3 h.low h.xlt hT.d hdid
    have hsl := h.low.size
    refine ⟨gs, gl, rfl, ⟨⟨oD, oL, oS, hT, fun k hk => ?_⟩, hdd.low, hdd.xlt⟩, hxk⟩
    rcases hk with h5 | h5 | h5
    · rcases hdid.new k h5 with h6 | h6
      · exact h3 k h6
      · exact ⟨by omega, fun hX => by have := h.xlt k hX; omega⟩
    · exact ⟨by have := hlo k h5; omega, fun hX => by have := h.xlt k hX; have := hlo k h5; omega⟩
    · exact ⟨by have := hso k h5; omega, fun hX => by have := h.xlt k hX; have := hso k h5; omega⟩
  · exact absurd hd hn
set_option maxRecDepth 100000 in
/-- .. or the power goes off -/
theorem dd_sopen_err (w wr : World) (X : Nat → Prop) (gd : Nat) (s : DS) (q : Int) (T : List (List Int)) (h : DD w wr X gd s) (hq : ¬ q < 0) (hoff : s.off = false) (hO : s.O.length ≤ 900000) (hr : rdF s.now = some (T, (FrS 0 T).length)) (hE : s.wipE (FrS 0 T).length ≠ 0) :
    Calls Tryz.prog 11 #[.pointer (some ⟨gd, 0, none⟩), .int .i64 q] wr fun e w' => e = .returned (.tuple #[.pointer none, .int .i64 (s.wipE (FrS 0 T).length)]) ∧ DD w w' X gd (s.wipS (FrS 0 T).length) ∧ XK X wr w' := by
  obtain ⟨ownD, h1, h3⟩ := h.ex
  refine (sopen_err gd ownD s q wr T (FrS 0 T).length hq h1 hoff hr hO hE).mono ?_
  rintro e w' ⟨rfl, own', hD, hdid⟩
  exact ⟨rfl, DD.did h1 h3 h.low h.xlt hD hdid⟩
set_option maxRecDepth 100000 in
theorem Bls.take {w : World} {ao : Option Addr} {len cap : Nat} {K : List Bool} (h : Bls w ao len cap K) (k : Nat) (hk : k ≤ len) : Bls w ao k cap (K.take k) :=
  ⟨by rw [List.length_take, h.len_eq]; omega, by have := h.le_cap; omega, h.cap_le, fun hp => by
    obtain ⟨b, off, e, hlt, hc⟩ := h.spot (by omega)
    refine ⟨b, off, e, hlt, fun i hi => ?_⟩
    rw [show (K.take k).getD i false = K.getD i false from by rw [List.getD_eq_getElem?_getD, List.getElem?_take, if_pos hi, ← List.getD_eq_getElem?_getD]]
    exact hc i (by omega)⟩
set_option maxRecDepth 100000 in
set_option maxHeartbeats 400000 in
theorem keep_any (a : Option Addr) (len cap : Nat) (K : List Bool) (w : World) (h : Bls w a len cap K) :
    Calls Tryz.prog 20 #[.slice a len cap] w fun e w' => (∃ m, e = .returned (.slice a m cap) ∧ m ≤ len ∧ Bls w a m cap (K.take 400)) ∧ w = w' := by
  have hcc := h.le_cap
  have hcm := h.cap_le
  have hl := h.len_eq
  unfold maxLen at hcm
  by_cases hlt : (len : Int) > 400
  · have HT : Bx _ := ⟨h.take 400 (by omega)⟩
    obtain ⟨b, off, rfl, _, _⟩ := h.spot (by omega)
    have h4 : 400 ≤ len := by omega
    clear h hl
    go_enter Tryz.func20, Tryz.ntmps20
    go_wp2
    go_ret
    exact ⟨⟨400, rfl, h4, HT.out⟩, rfl⟩
  · have HT : Hid (K.take 400 = K) := List.take_of_length_le (by omega)
    have HB : Bx _ := ⟨h⟩
    clear hl h
    go_enter Tryz.func20, Tryz.ntmps20
    go_wp2
    go_ret
    exact ⟨⟨len, rfl, Nat.le_refl _, by rw [HT.out]; exact HB.out⟩, rfl⟩
end Go.Proofs.YtjnjokbdoendkaaGreat
namespace Go.Proofs.YtjnjokbdoendkaaGreat
open Go.RowKit
set_option linter.unusedVariables false

/-- the store, what is sure, what may be -/
structure KS (w wx : World) (X : Nat → Prop) (gd gl gs n : Nat) (q : Int) (s : DS) (L : LS) (M : List Pr) (T : List (List Int)) (b : List Int) (doubt : Bool) (aS : Option Addr) (nS cS : Nat) (aM : Option Addr) (nM cM : Nat) (Ks Km : List Pr) (k : Nat) : Prop where
  dt : DT w wx X gd gl gs s L q M
  ki : KI n s L M T b doubt
  ps : PT X wx aS nS cS Ks
  pm : PT X wx aM nM cM Km
  rs : Rep Ks (mkM T)
  rm : doubt = true → Rep Km (mkM (T ++ [b]))
  tl : T.length + (if doubt = true then 1 else 0) ≤ k
  tb : ∀ x ∈ T, Byt x
  bb : doubt = true → Byt b
section
variable {w wx w1 : World} {X : Nat → Prop} {gd gl gs n : Nat} {q : Int} {s : DS} {L : LS} {M : List Pr} {T : List (List Int)} {b : List Int} {doubt : Bool} {aS : Option Addr} {nS cS : Nat} {aM : Option Addr} {nM cM : Nat} {Ks Km : List Pr} {k : Nat}
set_option maxRecDepth 100000 in
theorem KS.start (hD : DT w wx (fun _ => False) gd gl gs (dnew n) (lgs []) q []) : KS w wx (fun _ => False) gd gl gs n q (dnew n) (lgs []) [] [] [] false none 0 0 none 0 0 [] [] 0 :=
  ⟨hD, ⟨Inv.rest (rest_new n) (by simp [dnew]), rfl, (fun b hb => by simp at hb), fun e => by cases e⟩, RT.nil _ _, RT.nil _ _, Rep.nil, (fun e => by cases e), by simp, (by simp), fun e => by cases e⟩
set_option maxRecDepth 100000 in
theorem KS.up (h : KS w wx X gd gl gs n q s L M T b doubt aS nS cS aM nM cM Ks Km k) {j : Nat} (hj : k ≤ j) : KS w wx X gd gl gs n q s L M T b doubt aS nS cS aM nM cM Ks Km j :=
  ⟨h.dt, h.ki, h.ps, h.pm, h.rs, h.rm, Nat.le_trans h.tl hj, h.tb, h.bb⟩
set_option maxRecDepth 100000 in
theorem KS.step (h : KS w wx X gd gl gs n q s L M T b doubt aS nS cS aM nM cM Ks Km k) (hb : Below wx.heap.size wx w1) : KS w w1 X gd gl gs n q s L M T b doubt aS nS cS aM nM cM Ks Km k :=
  ⟨h.dt.step hb, h.ki, h.ps.below hb, h.pm.below hb, h.rs, h.rm, h.tl, h.tb, h.bb⟩
set_option maxRecDepth 100000 in
theorem KS.more (h : KS w wx X gd gl gs n q s L M T b doubt aS nS cS aM nM cM Ks Km k) (hb : Below wx.heap.size wx w1) : KS w w1 (fun k => X k ∨ (wx.heap.size ≤ k ∧ k < w1.heap.size)) gd gl gs n q s L M T b doubt aS nS cS aM nM cM Ks Km k :=
  ⟨h.dt.more hb, h.ki, (h.ps.below hb).mono (fun _ _ h => .inl h), (h.pm.below hb).mono (fun _ _ h => .inl h), h.rs, h.rm, h.tl, h.tb, h.bb⟩
set_option maxRecDepth 100000 in
/-- how much there is -/
theorem KS.bd (h : KS w wx X gd gl gs n q s L M T b doubt aS nS cS aM nM cM Ks Km k) (hk : k ≤ 26) (hn : n ≤ 200) : byM M ≤ 1000000000000 ∧ M.length ≤ 1000000 ∧ nS ≤ 500 ∧ byM Ks = byM M ∧ Rep Ks M ∧ s.O.length ≤ 900000 ∧ byM Ks ≤ 1000000000000 := by
  have hT : T.length ≤ 26 := by have := h.tl; omega
  have h1 := mkM_by h.tb (by omega)
  have h2 : (mkM T).length ≤ 0 + 16 * T.length := mkM_length T [] h.tb
  have h3 := h.rs.p.length_eq
  have h4 := h.ps.len_eq
  have h5 := byM_perm h.rs.p
  have h6 := h.ki.i.2.1
  rw [h.ki.m]
  exact ⟨by omega, by omega, by omega, h5, h.rs, by omega, by omega⟩
set_option maxRecDepth 100000 in
/-- a commit that is told OK -/
theorem KS.ok (h : KS w wx X gd gl gs n q s L M T b doubt aS nS cS aM nM cM Ks Km k) {F : List Chg} {w3 w4 : World} {s' : DS} {L' : LS} {M' : List Pr} {a' : Option Addr} {n' c' : Nat} (hD : DT w w3 X gd gl gs s' L' q M') (hki : KI n s' L' M' (T ++ [encL F]) b false) (hM : M' = doM M F) (hx : XK X wx w3) (hp : PT (fun k => X k ∨ w3.heap.size ≤ k) w4 a' n' c' (doneL Ks F)) (hb : Below w3.heap.size w3 w4) (hby : Byt (encL F)) :
    KS w w4 (fun k => X k ∨ (w3.heap.size ≤ k ∧ k < w4.heap.size)) gd gl gs n q s' L' M' (T ++ [encL F]) b false a' n' c' aM nM cM (doneL Ks F) Km (k + 1) := by
  refine ⟨hD.more hb, hki, hp.mono (fun j hj h => ?_), ((h.pm.xkp hx).below hb).mono (fun _ _ h => .inl h), ?_, (fun e => by cases e), ?_, fun x hx => ?_, fun e => by cases e⟩
  · rcases h with h | h
    · exact .inl h
    · exact .inr ⟨h, hj⟩
  · rw [← hki.m, hM, h.ki.m]; exact h.rs.done F
  · have := h.tl
    rw [List.length_append]
    simp only [Bool.false_eq_true, if_false, List.length_cons, List.length_nil]
    omega
  · rcases List.mem_append.1 hx with h1 | h1
    · exact h.tb x h1
    · obtain rfl : x = encL F := by simpa using h1
      exact hby
set_option maxRecDepth 100000 in
/-- a commit in which the power goes off -/
theorem KS.power (h : KS w wx X gd gl gs n q s L M T b doubt aS nS cS aM nM cM Ks Km k) {F : List Chg} {w3 w4 : World} {s' : DS} {L' : LS} {M' : List Pr} {a' : Option Addr} {n' c' : Nat} (hd : doubt = false) (hD : DT w w3 X gd gl gs s' L' q M') (hki : KI n s' L' M' T (encL F) true) (hM : mkM (T ++ [encL F]) = doM M F) (hx : XK X wx w3) (hp : PT (fun k => X k ∨ w3.heap.size ≤ k) w4 a' n' c' (doneL Ks F)) (hb : Below w3.heap.size w3 w4) (hby : Byt (encL F)) :
    KS w w4 (fun k => X k ∨ (w3.heap.size ≤ k ∧ k < w4.heap.size)) gd gl gs n q s' L' M' T (encL F) true aS nS cS a' n' c' Ks (doneL Ks F) (k + 1) := by
  refine ⟨hD.more hb, hki, ((h.ps.xkp hx).below hb).mono (fun _ _ h => .inl h), hp.mono (fun j hj h => ?_), h.rs, fun _ => ?_, ?_, h.tb, fun _ => hby⟩
  · rcases h with h | h
    · exact .inl h
    · exact .inr ⟨h, hj⟩
  · rw [hM, h.ki.m]; exact h.rs.done F
  · have := h.tl
    rw [hd] at this
    simp only [Bool.false_eq_true, if_false] at this
    simp only [if_true]
    omega
set_option maxRecDepth 100000 in
/-- a commit that is refused, an arm -/
theorem KS.no (h : KS w wx X gd gl gs n q s L M T b doubt aS nS cS aM nM cM Ks Km k) {w3 : World} {s' : DS} {L' : LS} {M' : List Pr} (hD : DT w w3 X gd gl gs s' L' q M') (hki : KI n s' L' M' T b doubt) (hx : XK X wx w3) :
    KS w w3 X gd gl gs n q s' L' M' T b doubt aS nS cS aM nM cM Ks Km (k + 1) :=
  ⟨hD, hki, h.ps.xkp hx, h.pm.xkp hx, h.rs, h.rm, by have := h.tl; omega, h.tb, h.bb⟩
set_option maxRecDepth 100000 in
/-- opened behind a crash -/
theorem KS.opened (h : KS w wx X gd gl gs n q s L M T b doubt aS nS cS aM nM cM Ks Km k) {w3 : World} {T2 : List (List Int)} {s2 : DS} {gl2 gs2 : Nat} (hT : T2 = T ∨ (doubt = true ∧ T2 = T ++ [b])) (hD : DT w w3 X gd gl2 gs2 s2 (lgs T2) q (mkM T2)) (hx : XK X wx w3) (hr : Rest s2 T2) (hn : s2.F.length = n) (hd2 : TDec T2) :
    ∃ K2, (K2 = Ks ∨ (doubt = true ∧ K2 = Km)) ∧ Rep K2 (mkM T2) ∧ PT X w3 aS nS cS Ks ∧ PT X w3 aM nM cM Km ∧ (T2.length ≤ k) ∧ (∀ x ∈ T2, Byt x) ∧ ∀ W aX nX cX, Below w3.heap.size w3 W → PT X W aX nX cX K2 → KS w W X gd gl2 gs2 n q s2 (lgs T2) (mkM T2) T2 b false aX nX cX aM nM cM K2 Km (k + 1) := by
  have hl : T2.length ≤ k := by
    have h1 := h.tl
    rcases hT with h2 | ⟨h2, h3⟩
    · rw [h2]; omega
    · rw [if_pos h2] at h1
      rw [h3, List.length_append]; exact h1
  have hby : ∀ x ∈ T2, Byt x := fun x hx => by
    rcases hT with h2 | ⟨h2, h3⟩
    · rw [h2] at hx; exact h.tb x hx
    · rw [h3] at hx
      rcases List.mem_append.1 hx with h4 | h4
      · exact h.tb x h4
      · obtain rfl : x = b := by simpa using h4
        exact h.bb h2
  have hgo : ∀ K2, Rep K2 (mkM T2) → ∀ W aX nX cX, Below w3.heap.size w3 W → PT X W aX nX cX K2 → KS w W X gd gl2 gs2 n q s2 (lgs T2) (mkM T2) T2 b false aX nX cX aM nM cM K2 Km (k + 1) := fun K2 hK W aX nX cX hb hp =>
    ⟨hD.step hb, ⟨Inv.rest hr hn, rfl, hd2, fun e => by cases e⟩, hp, (h.pm.xkp hx).below hb, hK, (fun e => by cases e), by simp only [Bool.false_eq_true, if_false]; omega, hby, fun e => by cases e⟩
  rcases hT with h2 | ⟨h2, h3⟩
  · have hR : Rep Ks (mkM T2) := by rw [h2]; exact h.rs
    exact ⟨Ks, .inl rfl, hR, h.ps.xkp hx, h.pm.xkp hx, hl, hby, hgo Ks hR⟩
  · have hR : Rep Km (mkM T2) := by rw [h3]; exact h.rm h2
    exact ⟨Km, .inr ⟨h2, rfl⟩, hR, h.ps.xkp hx, h.pm.xkp hx, hl, hby, hgo Km hR⟩
end
set_option maxRecDepth 100000 in
/-- Open of a disk whose power may go off -/
theorem dd_sopen_both (w wr : World) (X : Nat → Prop) (gd n : Nat) (s : DS) (q x : Int) (S : List (List Int)) (b : List Int) (doubt : Bool) (T : List (List Int)) (h : DD w wr X gd (s.ar x)) (hq : ¬ q < 0) (hL : Left n s S b doubt T) (hd : TDec T) :
    Calls Tryz.prog 11 #[.pointer (some ⟨gd, 0, none⟩), .int .i64 q] wr fun e w' => ∃ v, e = .returned v ∧ ∃ s2, DD w w' X gd s2 ∧ XK X wr w' ∧ s2.O.length ≤ n ∧ ∀ K, Left n (s2.cr K) S b doubt T := by
  obtain ⟨h1, h2, h3, h4, h5, h6⟩ := hL.open x h.ok
  rcases h4 with h4 | h4
  · refine (dd_sopen w wr X gd _ q T h hq h1 h2 h3 h4 hd).mono ?_
    rintro e w' ⟨gs, gl, rfl, hD, hx⟩
    exact ⟨_, rfl, _, hD.dd, hx, h5, h6⟩
  · refine (dd_sopen_err w wr X gd _ q T h hq h1 h2 h3 (by rw [h4]; decide)).mono ?_
    rintro e w' ⟨rfl, hD, hx⟩
    exact ⟨_, rfl, _, hD, hx, h5, h6⟩
set_option maxRecDepth 100000 in
/-- Open of what a crash left -/
theorem dd_sopen_left (w wr : World) (X : Nat → Prop) (gd n : Nat) (s : DS) (q : Int) (S : List (List Int)) (b : List Int) (doubt : Bool) (T : List (List Int)) (h : DD w wr X gd s) (hq : ¬ q < 0) (hL : Left n s S b doubt T) (hd : TDec T) :
    Calls Tryz.prog 11 #[.pointer (some ⟨gd, 0, none⟩), .int .i64 q] wr fun e w' => ∃ gs gl s2, e = .returned (.tuple #[.pointer (some ⟨gs, 0, none⟩), .int .i64 0]) ∧ DT w w' X gd gl gs s2 (lgs T) q (mkM T) ∧ XK X wr w' ∧ Rest s2 T ∧ s2.F.length = n := by
  have hrd := hL.rd h.ok
  obtain ⟨hF, hOn, hoff, harm, hTO, hLy, _⟩ := hL
  have hwl : s.wipE (FrS 0 T).length = 0 ∧ Rest (s.wipS (FrS 0 T).length) T ∧ (s.wipS (FrS 0 T).length).F.length = n := by
    rcases wip_lay hoff hOn hTO hLy with ⟨h1, h2, h3, _⟩ | ⟨_, h2, _⟩
    · exact ⟨h1, h2, by rw [h3, hF]⟩
    · rw [harm] at h2; cases h2
  refine (dd_sopen w wr X gd s q T h hq hoff (by rw [hOn]; exact Nat.zero_le _) hrd hwl.1 hd).mono ?_
  rintro e w' ⟨gs, gl, rfl, hD, hx⟩
  exact ⟨gs, gl, _, rfl, hD, hx, hwl.2.1, hwl.2.2⟩
/-- the variable of a call -/
def rowD (D : DoM) (a2 : Option Addr) (l2 c2 : Nat) (a3 : Option Addr) (l3 c3 : Nat) : Obj := .cells #[.int .i64 D.kind, .int .i64 D.n, .slice a2 l2 c2, .slice a3 l3 c3] 42 (0, 0)
set_option maxRecDepth 100000 in
theorem rd_cells {W : World} {gk : Nat} {D : DoM} {a2 : Option Addr} {l2 c2 : Nat} {a3 : Option Addr} {l3 c3 : Nat} (h : W.heap[gk]? = some (rowD D a2 l2 c2 a3 l3 c3)) : W.cell? ⟨gk, 0, none⟩ = some (.int .i64 D.kind) ∧ W.cell? ⟨gk, 1, none⟩ = some (.int .i64 D.n) ∧ W.cell? ⟨gk, 2, none⟩ = some (.slice a2 l2 c2) ∧ W.cell? ⟨gk, 3, none⟩ = some (.slice a3 l3 c3) :=
  ⟨by rw [cell_of_row W gk 0 _ _ (0, 0) h]; rfl, by rw [cell_of_row W gk 1 _ _ (0, 0) h]; rfl, by rw [cell_of_row W gk 2 _ _ (0, 0) h]; rfl, by rw [cell_of_row W gk 3 _ _ (0, 0) h]; rfl⟩
set_option maxRecDepth 100000 in
theorem XK.row {X : Nat → Prop} {w w' : World} {k : Nat} {o : Option Obj} (h : XK X w w') (hk : X k) (hr : w.heap[k]? = o) : w'.heap[k]? = o := (h.2 k hk).trans hr
end Go.Proofs.YtjnjokbdoendkaaGreat
