/- All bytes of a disk of eight sectors, and whether two such lists are the same. -/
import Derived.Test.YtihmfnndnjhpbaaMade9
import Derived.Test.YtihmfnndnjhpbaaSame
namespace Go.Proofs.Ytihmfnndnjhpbaa
open Go.RowKit
set_option linter.unusedVariables false

/-- the slice reads as the texts T in the world w -/
structure Txs (w : World) (ao : Option Addr) (len cap : Nat) (T : List (List Int)) : Prop where
  len_eq : T.length = len
  le_cap : len ≤ cap
  cap_le : cap ≤ maxLen
  spot : 0 < len → ∃ b off, ao = some ⟨b, off, none⟩ ∧ b < w.heap.size ∧ ∀ i, i < len → ∃ ai li ci, w.cell? ⟨b, off + i, none⟩ = some (.slice ai li ci) ∧ Bts w ai li ci (T.getD i [])
set_option maxRecDepth 100000 in
theorem Txs.below {w w' : World} {ao : Option Addr} {len cap : Nat} {T : List (List Int)} (h : Txs w ao len cap T) (hb : Below w.heap.size w w') : Txs w' ao len cap T :=
  ⟨h.len_eq, h.le_cap, h.cap_le, fun hp => by
    obtain ⟨b, off, e, hlt, hc⟩ := h.spot hp
    refine ⟨b, off, e, Nat.lt_of_lt_of_le hlt hb.size, fun i hi => ?_⟩
    obtain ⟨ai, li, ci, h1, h2⟩ := hc i hi
    exact ⟨ai, li, ci, (hb.cell hlt).trans h1, h2.below hb⟩⟩
set_option maxRecDepth 100000 in
theorem Txs.drewN {w : World} {ao : Option Addr} {len cap : Nat} {T : List (List Int)} (h : Txs w ao len cap T) (n : Nat) : Txs (w.drewN n) ao len cap T :=
  ⟨h.len_eq, h.le_cap, h.cap_le, fun hp => by
    obtain ⟨b, off, e, hlt, hc⟩ := h.spot hp
    refine ⟨b, off, e, hlt, fun i hi => ?_⟩
    obtain ⟨ai, li, ci, h1, h2⟩ := hc i hi
    exact ⟨ai, li, ci, h1, h2.drewN n⟩⟩
set_option maxRecDepth 100000 in
theorem Bts.grown {w w' : World} {a : Option Addr} {n c : Nat} {l : List Int} {row : Option Nat} (h : Bts w a n c l) (hg : w.grownBy w' row) (hne : 0 < n → ∀ p, a = some p → row ≠ some p.block) : Bts w' a n c l :=
  ⟨h.len_eq, h.byt, h.le_cap, h.cap_le, h.nil, fun hp => by
    obtain ⟨b, off, e, hlt, hc⟩ := h.spot hp
    have hn := hne hp _ e
    exact ⟨b, off, e, Nat.lt_of_lt_of_le hlt hg.size, fun i hi => (World.cell?_of_block (w := w) (hg.block b hlt (Ne.symm hn))).trans (hc i hi)⟩⟩
/-- an own list of texts, each in memory of its own -/
structure OT (base : Nat) (v : Value) (L : List (List Int)) (w wr : World) : Prop where
  low : Below base w wr
  size : base ≤ wr.heap.size
  own : ∃ xs, wr.ownsRow base 33 1 v L.length xs ∧ ∀ i, i < L.length → ∃ ai li ci, xs[i]? = some (.slice ai li ci) ∧ Bts wr ai li ci (L.getD i []) ∧ (0 < li → ∀ p, ai = some p → v.ownBlock ≠ some p.block ∧ base ≤ p.block)
set_option maxRecDepth 100000 in
theorem OT.step {base : Nat} {v : Value} {L : List (List Int)} {w wr w1 : World} (h : OT base v L w wr) (hb : Below wr.heap.size wr w1) : OT base v L w w1 := by
  obtain ⟨xs, ho, hx⟩ := h.own
  refine ⟨h.low.trans (hb.mono h.size), Nat.le_trans h.size hb.size, xs, owns_below ho hb, fun i hi => ?_⟩
  obtain ⟨ai, li, ci, e1, e2, e3⟩ := hx i hi
  exact ⟨ai, li, ci, e1, e2.below hb, e3⟩
set_option maxRecDepth 100000 in
theorem OT.app {base g cap : Nat} {v : Value} {L : List (List Int)} {l : List Int} {a : Option Addr} {n c : Nat} {xs : List Value} {w wr wB w' : World} (h : OT base v L w wr) (hbt : Bts wr a n c l) (hne : 0 < n → ∀ p, a = some p → v.ownBlock ≠ some p.block ∧ base ≤ p.block)
    (hB : wB = wr.alloc (.cells #[.slice a n c] 33)) (hxs : ∀ i, i < L.length → ∃ ai li ci, xs[i]? = some (.slice ai li ci) ∧ Bts wr ai li ci (L.getD i []) ∧ (0 < li → ∀ p, ai = some p → v.ownBlock ≠ some p.block ∧ base ≤ p.block)) (hxl : xs.length = L.length)
    (hv : ∀ k, v.ownBlock = some k → base ≤ k) (ho : w'.ownsRow base 33 1 (.slice (some ⟨g, 0, none⟩) (L.length + 1) cap) (L.length + 1) (xs ++ [.slice a n c])) (hg : wB.grownBy w' v.ownBlock) (hl : v.ownBlock = some g ∨ g = wB.heap.size) : OT base (.slice (some ⟨g, 0, none⟩) (L.length + 1) cap) (L ++ [l]) w w' := by
  have hb : Below wr.heap.size wr wB := by rw [hB]; exact (Below.refl _ _).alloc (Nat.le_refl _) _
  have hlow : Below base w wB := h.low.trans (hb.mono h.size)
  have hfar : ∀ {ai : Option Addr} {li ci : Nat} {y : List Int}, Bts wr ai li ci y → (0 < li → ∀ p, ai = some p → v.ownBlock ≠ some p.block ∧ base ≤ p.block) → Bts w' ai li ci y ∧ (0 < li → ∀ p, ai = some p → (Value.slice (some ⟨g, 0, none⟩) (L.length + 1) cap).ownBlock ≠ some p.block ∧ base ≤ p.block) := by
    intro ai li ci y hy hn
    refine ⟨(hy.below hb).grown hg (fun hp p e => (hn hp p e).1), fun hp p e => ⟨?_, (hn hp p e).2⟩⟩
    show some g ≠ some p.block
    rcases hl with h1 | h1
    · rw [← h1]; exact (hn hp p e).1
    · intro e2
      obtain ⟨b, off, e3, hlt, _⟩ := hy.spot hp
      rw [e3] at e; cases e
      have e4 : g = b := Option.some.inj e2
      have := hb.size
      omega
  refine ⟨hlow.grown hg (Nat.le_trans h.size hb.size) hv, Nat.le_trans (Nat.le_trans h.size hb.size) hg.size, xs ++ [.slice a n c], by rw [List.length_append]; exact ho, fun i hi => ?_⟩
  rw [List.length_append] at hi
  by_cases hiL : i < L.length
  · obtain ⟨ai, li, ci, e1, e2, e3⟩ := hxs i hiL
    obtain ⟨f1, f2⟩ := hfar e2 e3
    refine ⟨ai, li, ci, by rw [List.getElem?_append_left (by omega)]; exact e1, ?_, f2⟩
    rw [List.getD_eq_getElem?_getD, List.getElem?_append_left hiL, ← List.getD_eq_getElem?_getD]; exact f1
  · obtain rfl : i = L.length := by simp at hi; omega
    obtain ⟨f1, f2⟩ := hfar hbt hne
    refine ⟨a, n, c, by rw [List.getElem?_append_right (by omega), hxl, Nat.sub_self]; rfl, ?_, f2⟩
    rw [List.getD_eq_getElem?_getD, List.getElem?_append_right (Nat.le_refl _), Nat.sub_self]; exact f1
/-- all of it lies from B on -/
structure TxB (B : Nat) (w : World) (ao : Option Addr) (len cap : Nat) (T : List (List Int)) : Prop where
  len_eq : T.length = len
  le_cap : len ≤ cap
  cap_le : cap ≤ maxLen
  spot : 0 < len → ∃ b off, ao = some ⟨b, off, none⟩ ∧ b < w.heap.size ∧ B ≤ b ∧ ∀ i, i < len → ∃ ai li ci, w.cell? ⟨b, off + i, none⟩ = some (.slice ai li ci) ∧ Bts w ai li ci (T.getD i []) ∧ (0 < li → ∀ p, ai = some p → B ≤ p.block)
set_option maxRecDepth 100000 in
theorem TxB.txs {B : Nat} {w : World} {ao : Option Addr} {len cap : Nat} {T : List (List Int)} (h : TxB B w ao len cap T) : Txs w ao len cap T :=
  ⟨h.len_eq, h.le_cap, h.cap_le, fun hp => by
    obtain ⟨b, off, e, hlt, _, hc⟩ := h.spot hp
    refine ⟨b, off, e, hlt, fun i hi => ?_⟩
    obtain ⟨ai, li, ci, h1, h2, _⟩ := hc i hi
    exact ⟨ai, li, ci, h1, h2⟩⟩
set_option maxRecDepth 100000 in
theorem TxB.kept {B : Nat} {own : Nat → Prop} {w w' : World} {ao : Option Addr} {len cap : Nat} {T : List (List Int)} (h : TxB B w ao len cap T) (hk : Kept own w w') (ho : ∀ k, own k → k < B) : TxB B w' ao len cap T :=
  ⟨h.len_eq, h.le_cap, h.cap_le, fun hp => by
    obtain ⟨b, off, e, hlt, hB, hc⟩ := h.spot hp
    refine ⟨b, off, e, Nat.lt_of_lt_of_le hlt hk.size, hB, fun i hi => ?_⟩
    obtain ⟨ai, li, ci, h1, h2, h3⟩ := hc i hi
    exact ⟨ai, li, ci, (World.cell?_of_block (w := w) (hk.block b hlt (fun hh => by have := ho b hh; omega))).trans h1, h2.kept hk (fun hp p e hh => by have h4 := ho _ hh; have h5 := h3 hp p e; omega), h3⟩⟩
set_option maxRecDepth 100000 in
theorem TxB.below {B : Nat} {w w' : World} {ao : Option Addr} {len cap : Nat} {T : List (List Int)} (h : TxB B w ao len cap T) (hb : Below w.heap.size w w') : TxB B w' ao len cap T := h.kept (own := fun _ => False) (Kept.of_below hb) (fun _ hh => hh.elim)
set_option maxRecDepth 100000 in
theorem OT.txs {base : Nat} {v : Value} {L : List (List Int)} {w wr : World} (h : OT base v L w wr) : ∃ a c, v = .slice a L.length c ∧ TxB base wr a L.length c L := by
  obtain ⟨xs, ho, hx⟩ := h.own
  rcases ho.2 with ⟨rfl, h0⟩ | ⟨g, cap, cur, rfl, hb, hg, hnc, hcm, hcs, ht⟩
  · exact ⟨none, 0, by rw [h0], rfl, by omega, Nat.zero_le _, fun hp => by omega⟩
  · refine ⟨some ⟨g, 0, none⟩, cap, rfl, rfl, hnc, hcm, fun hp => ⟨g, 0, rfl, (Array.getElem?_eq_some_iff.1 hg).1, hb, fun i hi => ?_⟩⟩
    obtain ⟨ai, li, ci, e1, e2, e3⟩ := hx i hi
    refine ⟨ai, li, ci, ?_, e2, fun hp p e => (e3 hp p e).2⟩
    rw [Nat.zero_add, ho.cellAt i (by omega)]; exact e1
set_option maxRecDepth 100000 in
theorem Try.info22 : (Try.prog.info? 33).map (fun i => (i.zero, i.size, i.bytes)) = some (some (.slice none 0 0), 1, 24) := by kernel_rfl
set_option maxRecDepth 100000 in
theorem own_far {w : World} {base g n c : Nat} {a : Option Addr} {xs : List Value} (h : w.ownsRow base 5 1 (.slice a n c) n xs) (hg : g < base) : 0 < n → ∀ p, a = some p → p.block ≠ g := fun _ p hp e => by
  have := h.lt g (by rw [hp, ← e]; rfl)
  omega
set_option maxRecDepth 100000 in
theorem cell_one_new (w : World) (v : Value) (T : TypeId) : ∀ j u, [v][j]? = some u → (w.alloc (.cells #[v] T)).cell? ((⟨w.heap.size, 0, none⟩ : Addr).add j) = some u := World.news_of_block (heap_alloc_new w (.cells #[v] T))
set_option maxRecDepth 100000 in
theorem rd_at {s : DS} (h : s.off = false) (k : Nat) (hk : k < s.F.length) : s.rdE k = 0 ∧ s.rdL k = s.now.getD k [] := by
  have e : (decide (0 ≤ (k : Int)) && decide ((k : Int) < (s.F.length : Int))) = true := by simp; omega
  unfold DS.rdE DS.rdL
  rw [h, e]; exact ⟨rfl, rfl⟩
set_option maxRecDepth 100000 in
theorem now_len (s : DS) : s.now.length = s.F.length := app_len _ _
set_option maxRecDepth 100000 in
set_option maxHeartbeats 1000000 in
theorem all_any (g : Nat) (own : Nat → Prop) (s : DS) (w : World) (h : Dsk w g own s) (h8 : s.F.length = 8) (hoff : s.off = false) :
    Calls Try.prog 16 #[.pointer (some ⟨g, 0, none⟩)] w fun e w' => ∃ a c, e = .returned (.slice a 8 c) ∧ TxB w.heap.size w' a 8 c s.now ∧ Below w.heap.size w w' := by
  have HD : Bx (Dsk w g own s) := ⟨h⟩
  have HNL : Bx (s.now.length = 8) := ⟨by rw [now_len]; exact h8⟩
  have HSX : Bx (∀ k : Nat, k < 8 → (s.rdL k).length = 64 ∧ s.rdL k = s.now.getD k [] ∧ s.rdE k = 0) := ⟨fun k hk => by
    obtain ⟨e1, e2⟩ := rd_at hoff k (by omega)
    refine ⟨?_, e2, e1⟩
    rw [e2]
    exact ((app_sx h.ok.f h.ok.o).getD k (by rw [app_len]; omega)).1⟩
  have hOT : OT w.heap.size (.slice none 0 0) (s.now.take 0) w w := ⟨Below.refl _ _, Nat.le_refl _, [], World.ownsRow_nil _ _ _ _, fun i hi => by simp at hi⟩
  have HBY : Bx (∀ k : Int, Byt (s.rdL k)) := ⟨fun k => DS.rdL_byt h.ok k⟩
  clear h h8 hoff
  obtain ⟨N, hN⟩ : ∃ N, N = w.heap.size := ⟨_, rfl⟩
  rw [← hN] at hOT
  have HN : Hid (N = w.heap.size) := hN
  clear hN
  go_enter Try.func16, Try.ntmps16
  go_wp2
  go_loopw [3, 4] (fun v i wr => ∃ k : Nat, k ≤ 8 ∧ i = .int .i64 k ∧ OT N v (s.now.take k) w wr) (fun _ i _ => 8 - (intOf i).toNat)
  case atStart => exact ⟨0, Nat.zero_le _, rfl, hOT⟩
  case round =>
    clear hOT
    obtain ⟨k, hk, rfl, hOT⟩ := hrel
    obtain ⟨vAll, hvAll⟩ : ∃ vAll, vAll = u3 := ⟨_, rfl⟩
    subst hvAll
    have hlow : Below w.heap.size w wr := by rw [← HN.out]; exact hOT.low
    by_cases hlt : k < 8
    · have hkI : (k : Int) < 8 := by omega
      obtain ⟨e1, e2, e3⟩ := HSX.out k hlt
      have hD := HD.out.below hlow
      have HMO : Bx (s.now.take (k + 1) = s.now.take k ++ [s.now.getD k []]) := ⟨by
        have hkn : k < s.now.length := by rw [HNL.out]; exact hlt
        rw [List.take_succ_eq_append_getElem hkn, List.getD_eq_getElem?_getD, List.getElem?_eq_getElem hkn]; rfl⟩
      have HLL : Bx ((s.now.take k).length = k) := ⟨by rw [List.length_take, HNL.out]; omega⟩
      have hby := HBY.out k
      go_wp2_with fail
      refine (read_any g own s k _ hD).mono ?_
      rintro e w3 ⟨v, rfl, hown3, hb3⟩
      rw [e1, e2] at hown3
      rw [e3]
      rw [e2] at hby
      obtain ⟨a3, c3, rfl, hm3⟩ := Bts.of_owns hown3 hby
      have hO3 := hOT.step hb3
      have hfar : 0 < 64 → ∀ p, a3 = some p → vAll.ownBlock ≠ some p.block ∧ N ≤ p.block := by
        intro hp p e
        refine ⟨fun e2 => ?_, ?_⟩
        · obtain ⟨xs, ho, _⟩ := hOT.own
          exact own_far hown3 (ho.lt p.block e2).2 hp p e rfl
        · have h1 := (hown3.lt p.block (by rw [e]; rfl)).1
          have h2 := hOT.size
          omega
      obtain ⟨i0, hi, hz0, hz1, hz2⟩ := info_parts Try.info22
      obtain ⟨xs, hown, hxs⟩ := hO3.own
      have HXS : Bx _ := ⟨hxs⟩
      have hxl : xs.length = (s.now.take k).length := by have := hown.1; omega
      have hvb : ∀ k, vAll.ownBlock = some k → N ≤ k := fun k hk => (hown.lt k hk).1
      have hsz := hO3.size
      have HO3 : Bx _ := ⟨hO3⟩
      have HFAR : Bx _ := ⟨hfar⟩
      have HXL : Bx _ := ⟨hxl⟩
      have HVB : Bx _ := ⟨hvb⟩
      have HM3 : Bx _ := ⟨hm3⟩
      rw [HLL.out] at hown
      generalize s.now.getD k [] = y at HM3 HMO
      clear hOT hown3 hm3 hb3 hfar hxs hxl hvb hO3 hD hby e1 e2 e3
      go_wp2_with (at_builtin; refine wpList_append_lies _ rfl (.tmp 17) (.tmp 19) 41 rfl N 33 i0 (.slice none 0 0) 1 24 Try.underlying41 hi hz0 hz1 hz2 rfl (by decide) _ k xs rfl (hown.alloc _) ⟨w3.heap.size, 0, none⟩ 1 1 [.slice a3 64 c3] rfl rfl (cell_one_new _ _ _) (by simp [Value.oneCell']) (by decide) (by unfold maxLen; omega) (by omega) (by simp; omega) _ rfl ?_; intro g4 cap4 w4 hown4 hgr4 hl4 _)
      have hO4 : OT N (.slice (some ⟨g4, 0, none⟩) (k + 1) cap4) (s.now.take k ++ [y]) w w4 := by
        have h := OT.app (g := g4) (cap := cap4) (w' := w4) HO3.out HM3.out HFAR.out rfl HXS.out HXL.out HVB.out (by rw [HLL.out]; exact hown4) hgr4 hl4
        rw [HLL.out] at h
        exact h
      rw [← HMO.out] at hO4
      clear hown4 hgr4 hl4 hown hi hz0 hz1 hz2
      go_roundw
      case rel => exact ⟨k + 1, by omega, by go_num, hO4⟩
      case measure => simp [intOf]; omega
    · obtain rfl : k = 8 := by omega
      obtain ⟨a9, c9, e9, h9⟩ := hOT.txs
      have HT : Bx (s.now.take 8 = s.now) := ⟨List.take_of_length_le (by rw [HNL.out]; decide)⟩
      rw [HT.out] at e9 h9
      rw [HNL.out] at e9 h9
      subst e9
      clear hOT
      go_wp2
      go_ret
      exact ⟨a9, c9, rfl, by rw [← HN.out]; exact h9, hlow⟩
set_option maxRecDepth 100000 in
set_option maxHeartbeats 1000000 in
theorem same9_yes (a b : Option Addr) (n c d : Nat) (T : List (List Int)) (w : World) (ha : Txs w a n c T) (hb : Txs w b n d T) (hs : Sxl T) :
    Calls Try.prog 19 #[.slice a n c, .slice b n d] w fun e w' => e = .returned (.bool true) ∧ ∃ q, w' = w.drewN q := by
  have hc1 := ha.le_cap
  have hc2 := ha.cap_le
  unfold maxLen at hc2
  have HS : Bx (∀ k, k < n → (T.getD k []).length = 64) := ⟨fun k hk => (hs.getD k (by rw [ha.len_eq]; exact hk)).1⟩
  clear hs
  go_enter Try.func19, Try.ntmps19
  go_wp2
  go_loopw [5] (fun i wr => ∃ k q : Nat, k ≤ n ∧ i = .int .i64 k ∧ wr = w.drewN q) (fun i _ => n - (intOf i).toNat)
  case atStart => exact ⟨0, 0, Nat.zero_le _, rfl, rfl⟩
  case round =>
    obtain ⟨k, q, hk, rfl, hwr⟩ := hrel
    have HW : Hid (wr = w.drewN q) := hwr
    by_cases hlt : k < n
    · have ha1 : Txs wr a n c T := by rw [hwr]; exact ha.drewN q
      have hb1 : Txs wr b n d T := by rw [hwr]; exact hb.drewN q
      clear hwr
      obtain ⟨b1, o1, rfl, _, h1⟩ := ha1.spot (by omega)
      obtain ⟨b2, o2, rfl, _, h2⟩ := hb1.spot (by omega)
      obtain ⟨ai, li, ci, r1, t1⟩ := h1 k hlt
      obtain ⟨aj, lj, cj, r2, t2⟩ := h2 k hlt
      have hli : li = 64 := by rw [← t1.len_eq]; exact HS.out k hlt
      subst hli
      generalize T.getD k [] = t at t1 t2
      have hki : (k : Int) < (n : Int) := by omega
      clear h1 h2 ha1 hb1
      have hk : wr.drew.cell? ⟨b1, o1 + k, none⟩ = some (.slice ai 64 ci) ∧ wr.drew.cell? ⟨b2, o2 + k, none⟩ = some (.slice aj lj cj) ∧ Bts wr.drew ai 64 ci t ∧ Bts wr.drew aj lj cj t := ⟨r1, r2, t1.drewN 1, t2.drewN 1⟩
      have HQ : Hid (wr.drew = w.drewN (q + 1)) := by show _ = _; rw [HW.out]; rfl
      clear r1 r2 HW t1 t2
      go_wp2_with fail
      refine wp_region_held_drew (S := fun W => W.cell? ⟨b1, o1 + k, none⟩ = some (.slice ai 64 ci) ∧ W.cell? ⟨b2, o2 + k, none⟩ = some (.slice aj lj cj) ∧ Bts W ai 64 ci t ∧ Bts W aj lj cj t) (by kernel_rfl) hk (fun _ => ?_)
      generalize wr.drew = wd at hk HQ ⊢
      refine wpAnyH_take (i := 0) (oi := { dst := some 12, op := Op.move (Operand.tmp 0), type := 41, pos := "law.go:131", after := #[], guard := none }) (v := ?vdsame1) rfl (by kernel_rfl) (by kernel_rfl) (by kernel_rfl) (fun _ _ _ h => h) (Or.inl ⟨by rfl, ?ydsame1⟩) hk ?rdsame1
      case ydsame1 => (intro w hSw; (try dsimp only at hSw); go_simp; first | done | with_reducible rfl)
      simp only [Act.put, List.setIfInBounds_toArray, List.set_cons_zero, List.set_cons_succ]
      refine wpAnyH_take (i := 1) (oi := { dst := some 13, op := Op.move (Operand.tmp 5), type := 3, pos := "law.go:131", after := #[], guard := none }) (v := ?vdsame2) rfl (by kernel_rfl) (by kernel_rfl) (by kernel_rfl) (fun _ _ _ h => h) (Or.inl ⟨by rfl, ?ydsame2⟩) hk ?rdsame2
      case ydsame2 => (intro w hSw; (try dsimp only at hSw); go_simp; first | done | with_reducible rfl)
      simp only [Act.put, List.setIfInBounds_toArray, List.set_cons_zero, List.set_cons_succ]
      refine wpAnyH_take (i := 2) (oi := { dst := some 14, op := Op.indexAddr 41 (Operand.tmp 12) (Operand.tmp 13), type := 0, pos := "law.go:131", after := #[{ on := 0, ground := Ground.data }, { on := 1, ground := Ground.data }], guard := none }) (v := ?vdsame3) rfl (by kernel_rfl) (by kernel_rfl) (by kernel_rfl) (fun _ _ _ h => h) (Or.inl ⟨by rfl, ?ydsame3⟩) hk ?rdsame3
      case ydsame3 => (intro w hSw; (try dsimp only at hSw); go_simp; first | done | with_reducible rfl)
      simp only [Act.put, List.setIfInBounds_toArray, List.set_cons_zero, List.set_cons_succ]
      refine wpAnyH_take (i := 3) (oi := { dst := some 15, op := Op.load 33 (Operand.tmp 14), type := 33, pos := "law.go:131", after := #[{ on := 2, ground := Ground.data }], guard := none }) (v := ?vdsame4) rfl (by kernel_rfl) (by kernel_rfl) (by kernel_rfl) (fun _ _ _ h => h) (Or.inl ⟨by rfl, ?ydsame4⟩) hk ?rdsame4
      case ydsame4 => (intro w hSw; have hcw := hSw.1; clear hSw; go_simp; first | done | with_reducible rfl)
      simp only [Act.put, List.setIfInBounds_toArray, List.set_cons_zero, List.set_cons_succ]
      refine wpAnyH_take (i := 4) (oi := { dst := some 16, op := Op.call { callee := Callee.builtin Builtin.len, args := #[Operand.tmp 15], argTypes := #[33] }, type := 3, pos := "law.go:131", after := #[{ on := 3, ground := Ground.data }], guard := none }) (v := ?vdsame5) rfl (by kernel_rfl) (by kernel_rfl) (by kernel_rfl) (fun _ _ _ h => h) (Or.inl ⟨by rfl, ?ydsame5⟩) hk ?rdsame5
      case ydsame5 => (intro w hSw; (try dsimp only at hSw); go_simp; first | done | with_reducible rfl)
      simp only [Act.put, List.setIfInBounds_toArray, List.set_cons_zero, List.set_cons_succ]
      refine wpAnyH_take (i := 5) (oi := { dst := some 17, op := Op.binOp BinOp.neq 3 (Operand.tmp 16) (Operand.const (Value.int IntKind.i64 64)) 3, type := 4, pos := "law.go:131", after := #[{ on := 4, ground := Ground.data }], guard := none }) (v := ?vdsame6) rfl (by kernel_rfl) (by kernel_rfl) (by kernel_rfl) (fun _ _ _ h => h) (Or.inl ⟨by rfl, ?ydsame6⟩) hk ?rdsame6
      case ydsame6 => (intro w hSw; (try dsimp only at hSw); go_simp; first | done | with_reducible rfl)
      simp only [Act.put, List.setIfInBounds_toArray, List.set_cons_zero, List.set_cons_succ]
      refine wpAnyH_take (i := 6) (oi := { dst := some 18, op := Op.move (Operand.tmp 17), type := 4, pos := "law.go:131", after := #[{ on := 5, ground := Ground.data }], guard := none }) (v := ?vdsame7) rfl (by kernel_rfl) (by kernel_rfl) (by kernel_rfl) (fun _ _ _ h => h) (Or.inl ⟨by rfl, ?ydsame7⟩) hk ?rdsame7
      case ydsame7 => (intro w hSw; (try dsimp only at hSw); go_simp; first | done | with_reducible rfl)
      simp only [Act.put, List.setIfInBounds_toArray, List.set_cons_zero, List.set_cons_succ]
      refine wpAnyH_take (i := 7) (oi := { dst := some 19, op := Op.move (Operand.tmp 0), type := 41, pos := "law.go:131", after := #[{ on := 6, ground := Ground.guard }], guard := some (6, false) }) (v := ?vdsame8) rfl (by kernel_rfl) (by kernel_rfl) (by kernel_rfl) (fun _ _ _ h => h) (Or.inl ⟨by rfl, ?ydsame8⟩) hk ?rdsame8
      case ydsame8 => (intro w hSw; (try dsimp only at hSw); go_simp; first | done | with_reducible rfl)
      simp only [Act.put, List.setIfInBounds_toArray, List.set_cons_zero, List.set_cons_succ]
      refine wpAnyH_take (i := 8) (oi := { dst := some 20, op := Op.move (Operand.tmp 5), type := 3, pos := "law.go:131", after := #[{ on := 6, ground := Ground.guard }], guard := some (6, false) }) (v := ?vdsame9) rfl (by kernel_rfl) (by kernel_rfl) (by kernel_rfl) (fun _ _ _ h => h) (Or.inl ⟨by rfl, ?ydsame9⟩) hk ?rdsame9
      case ydsame9 => (intro w hSw; (try dsimp only at hSw); go_simp; first | done | with_reducible rfl)
      simp only [Act.put, List.setIfInBounds_toArray, List.set_cons_zero, List.set_cons_succ]
      refine wpAnyH_take (i := 9) (oi := { dst := some 21, op := Op.indexAddr 41 (Operand.tmp 19) (Operand.tmp 20), type := 0, pos := "law.go:131", after := #[{ on := 7, ground := Ground.data }, { on := 8, ground := Ground.data }, { on := 6, ground := Ground.guard }], guard := some (6, false) }) (v := ?vdsame10) rfl (by kernel_rfl) (by kernel_rfl) (by kernel_rfl) (fun _ _ _ h => h) (Or.inl ⟨by rfl, ?ydsame10⟩) hk ?rdsame10
      case ydsame10 => (intro w hSw; (try dsimp only at hSw); go_simp; first | done | with_reducible rfl)
      simp only [Act.put, List.setIfInBounds_toArray, List.set_cons_zero, List.set_cons_succ]
      refine wpAnyH_take (i := 10) (oi := { dst := some 22, op := Op.load 33 (Operand.tmp 21), type := 33, pos := "law.go:131", after := #[{ on := 9, ground := Ground.data }, { on := 6, ground := Ground.guard }], guard := some (6, false) }) (v := ?vdsame11) rfl (by kernel_rfl) (by kernel_rfl) (by kernel_rfl) (fun _ _ _ h => h) (Or.inl ⟨by rfl, ?ydsame11⟩) hk ?rdsame11
      case ydsame11 => (intro w hSw; have hcw := hSw.1; clear hSw; go_simp; first | done | with_reducible rfl)
      simp only [Act.put, List.setIfInBounds_toArray, List.set_cons_zero, List.set_cons_succ]
      refine wpAnyH_take (i := 11) (oi := { dst := some 23, op := Op.move (Operand.tmp 1), type := 41, pos := "law.go:131", after := #[{ on := 6, ground := Ground.guard }], guard := some (6, false) }) (v := ?vdsame12) rfl (by kernel_rfl) (by kernel_rfl) (by kernel_rfl) (fun _ _ _ h => h) (Or.inl ⟨by rfl, ?ydsame12⟩) hk ?rdsame12
      case ydsame12 => (intro w hSw; (try dsimp only at hSw); go_simp; first | done | with_reducible rfl)
      simp only [Act.put, List.setIfInBounds_toArray, List.set_cons_zero, List.set_cons_succ]
      refine wpAnyH_take (i := 12) (oi := { dst := some 24, op := Op.move (Operand.tmp 5), type := 3, pos := "law.go:131", after := #[{ on := 6, ground := Ground.guard }], guard := some (6, false) }) (v := ?vdsame13) rfl (by kernel_rfl) (by kernel_rfl) (by kernel_rfl) (fun _ _ _ h => h) (Or.inl ⟨by rfl, ?ydsame13⟩) hk ?rdsame13
      case ydsame13 => (intro w hSw; (try dsimp only at hSw); go_simp; first | done | with_reducible rfl)
      simp only [Act.put, List.setIfInBounds_toArray, List.set_cons_zero, List.set_cons_succ]
      refine wpAnyH_take (i := 13) (oi := { dst := some 25, op := Op.indexAddr 41 (Operand.tmp 23) (Operand.tmp 24), type := 0, pos := "law.go:131", after := #[{ on := 11, ground := Ground.data }, { on := 12, ground := Ground.data }, { on := 6, ground := Ground.guard }], guard := some (6, false) }) (v := ?vdsame14) rfl (by kernel_rfl) (by kernel_rfl) (by kernel_rfl) (fun _ _ _ h => h) (Or.inl ⟨by rfl, ?ydsame14⟩) hk ?rdsame14
      case ydsame14 => (intro w hSw; (try dsimp only at hSw); go_simp; first | done | with_reducible rfl)
      simp only [Act.put, List.setIfInBounds_toArray, List.set_cons_zero, List.set_cons_succ]
      refine wpAnyH_take (i := 14) (oi := { dst := some 26, op := Op.load 33 (Operand.tmp 25), type := 33, pos := "law.go:131", after := #[{ on := 13, ground := Ground.data }, { on := 6, ground := Ground.guard }], guard := some (6, false) }) (v := ?vdsame15) rfl (by kernel_rfl) (by kernel_rfl) (by kernel_rfl) (fun _ _ _ h => h) (Or.inl ⟨by rfl, ?ydsame15⟩) hk ?rdsame15
      case ydsame15 => (intro w hSw; have hcw := hSw.2.1; clear hSw; go_simp; first | done | with_reducible rfl)
      simp only [Act.put, List.setIfInBounds_toArray, List.set_cons_zero, List.set_cons_succ]
      refine wpAnyH_ready (rs := [15]) (by decide +kernel) (by simp) ?_
      refine AllReadyH.cons (o := { dst := some 27, op := Op.call { callee := Callee.value (Operand.func 24), args := #[Operand.tmp 22, Operand.tmp 26], argTypes := #[33, 33] }, type := 4, pos := "law.go:131", after := #[{ on := 10, ground := Ground.data }, { on := 14, ground := Ground.data }, { on := 6, ground := Ground.chain }, { on := 6, ground := Ground.guard }], guard := some (6, false) }) rfl (fun K hK => ?_) AllReadyH.nil
      go_simp
      refine (same_yes ai aj 64 lj ci cj t _ hk.2.2.1 hk.2.2.2).mono ?_
      rintro e1 w8 ⟨rfl, q8, hq8⟩
      replace hk : w8.cell? ⟨b1, o1 + k, none⟩ = some (.slice ai 64 ci) ∧ w8.cell? ⟨b2, o2 + k, none⟩ = some (.slice aj lj cj) ∧ Bts w8 ai 64 ci t ∧ Bts w8 aj lj cj t := by rw [hq8]; exact ⟨hk.1, hk.2.1, hk.2.2.1.drewN q8, hk.2.2.2.drewN q8⟩
      replace HQ : Hid (w8 = w.drewN (q + 1 + q8)) := by show _ = _; rw [hq8, HQ.out]; simp
      clear hq8
      refine hK.out _ _ hk (fun _ => ?_)
      clear hK K
      try simp only [Act.put, List.setIfInBounds_toArray, List.set_cons_zero, List.set_cons_succ]
      refine wpAnyH_take (i := 16) (oi := { dst := some 28, op := Op.unOp UnOp.not 4 (Operand.tmp 27), type := 4, pos := "law.go:131", after := #[{ on := 15, ground := Ground.data }, { on := 6, ground := Ground.guard }], guard := some (6, false) }) (v := ?vdsame16) rfl (by kernel_rfl) (by kernel_rfl) (by kernel_rfl) (fun _ _ _ h => h) (Or.inl ⟨by rfl, ?ydsame16⟩) hk ?rdsame16
      case ydsame16 => (intro w hSw; (try dsimp only at hSw); go_simp; first | done | with_reducible rfl)
      simp only [Act.put, List.setIfInBounds_toArray, List.set_cons_zero, List.set_cons_succ]
      refine wpAnyH_take (i := 17) (oi := { dst := some 29, op := Op.pick (Operand.tmp 18) (Operand.const (Value.bool true)) (Operand.tmp 28), type := 4, pos := "law.go:131", after := #[{ on := 6, ground := Ground.data }, { on := 16, ground := Ground.data }], guard := none }) (v := ?vdsame17) rfl (by kernel_rfl) (by kernel_rfl) (by kernel_rfl) (fun _ _ _ h => h) (Or.inl ⟨by rfl, ?ydsame17⟩) hk ?rdsame17
      case ydsame17 => (intro w hSw; (try dsimp only at hSw); go_simp; first | done | with_reducible rfl)
      simp only [Act.put, List.setIfInBounds_toArray, List.set_cons_zero, List.set_cons_succ]
      refine wpAnyH_done (by decide +kernel) ?_ _
      clear hk
      go_wp2
      go_roundw
      case rel => exact ⟨k + 1, _, by omega, by go_num, HQ.out⟩
      case measure => simp [intOf]; omega
    · clear hwr
      go_wp2
      go_ret
      exact ⟨rfl, q, HW.out⟩
end Go.Proofs.Ytihmfnndnjhpbaa
