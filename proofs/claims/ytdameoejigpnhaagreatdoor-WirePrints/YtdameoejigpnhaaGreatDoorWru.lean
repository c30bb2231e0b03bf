/- What is read is not long. No walk. What the document's own Print answers. -/
import Derived.Test.YtdameoejigpnhaaGreatDoorWrl
import Derived.Test.YtdameoejigpnhaaGreatDoorWre
import Derived.Test.YtdameoejigpnhaaGreatDoorWrr
import Derived.Test.YtdameoejigpnhaaGreatDoorRefDec
namespace Go.Proofs.YtdameoejigpnhaaGreatDoor
open Go.RowKit
set_option linter.unusedVariables false

structure SzH (h : HD) : Prop where
  m : h.m.size ≤ 10
  t : h.t.size ≤ 100
  k : h.k.size ≤ 1100
  n : h.n ≤ 2048
def SzI : WS → Prop
  | .head h _ cnt cur => SzH h ∧ cur.length ≤ cnt ∧ cnt ≤ 1024
  | .fix h left body => SzH h ∧ body.length + left ≤ 2048 ∧ 1 ≤ left
  | .chk h c => SzH h ∧ CI 2048 c
  | .done x => x.m.size ≤ 10 ∧ x.t.size ≤ 100 ∧ x.k.size ≤ 1100 ∧ x.b.length ≤ 2048
set_option maxRecDepth 100000 in
theorem fst_sz {l : List Int} {m t : ByteArray} (h : fstV l = some (m, t)) : m.size ≤ 10 ∧ t.size ≤ 100 := by
  unfold fstV at h
  split at h
  · rename_i m0 t0 v0 _
    split at h
    · rename_i hc
      cases h
      obtain ⟨_, hm, ht⟩ := hc
      unfold tgB at ht
      simp only [Bool.and_eq_true, decide_eq_true_eq] at ht
      rw [strOf_size, strOf_size]
      refine ⟨?_, by omega⟩
      rcases hm with rfl | rfl | rfl <;> decide
    · cases h
  · cases h
set_option maxRecDepth 100000 in
theorem say_sz {h : HD} {n v : List Int} (hs : SzH h) (hv : v.length ≤ 1024) : SzH (sayV h n v).1 := by
  unfold sayV
  split
  · split
    · exact hs
    · exact ⟨hs.m, hs.t, by show (strOf (v.drop 7)).size ≤ 1100; rw [strOf_size, List.length_drop]; omega, hs.n⟩
  · split
    · split
      · exact hs
      · exact ⟨hs.m, hs.t, hs.k, hs.n⟩
    · split
      · split
        · exact hs
        · split
          · exact hs
          · rename_i q _
            split
            · exact hs
            · split
              · exact hs
              · exact ⟨hs.m, hs.t, hs.k, by show q ≤ 2048; omega⟩
      · exact hs
set_option maxRecDepth 100000 in
theorem eol_sz {h : HD} {lines cnt : Nat} {l : List Int} (hs : SzH h) (hl : l.length ≤ cnt) (hc : cnt ≤ 1024) : SzI (eol wp0 h lines cnt l).1 := by
  unfold eol
  split
  · split
    · exact ⟨hs, hl, hc⟩
    · rename_i m t hF
      have := fst_sz hF
      exact ⟨⟨this.1, this.2, hs.k, hs.n⟩, Nat.zero_le _, hc⟩
  · split
    · unfold bgQ
      split
      · exact ⟨hs, CI.new (by decide)⟩
      · split
        · exact ⟨hs.m, hs.t, hs.k, Nat.zero_le _⟩
        · exact ⟨hs, by simpa using hs.n, by omega⟩
    · split
      · exact ⟨hs, hl, hc⟩
      · refine ⟨?_, Nat.zero_le _, hc⟩
        show SzH (furV h l).1
        unfold furV
        split
        · exact hs
        · exact say_sz hs (by rw [List.length_drop]; omega)
set_option maxRecDepth 100000 in
theorem wst_sz {s : WS} (hs : SzI s) {b : Int} (hb : 0 ≤ b ∧ b ≤ 255) (h0 : (wst wp0 s b).2 = 0) : SzI (wst wp0 s b).1 := by
  cases s with
  | head h lines cnt cur =>
    obtain ⟨h1, h2, h3⟩ := hs
    simp only [wst] at h0 ⊢
    split
    · rename_i hc; rw [if_pos hc] at h0; simp at h0
    · split
      · exact eol_sz h1 (by rw [List.length_dropLast]; omega) (by omega)
      · split
        · exact ⟨h1, h2, h3⟩
        · exact ⟨h1, by rw [List.length_append]; show _ + 1 ≤ _; omega, by omega⟩
  | fix h left body =>
    obtain ⟨h1, h2, h3⟩ := hs
    simp only [wst]
    split
    · exact ⟨h1.m, h1.t, h1.k, by show (body ++ [b]).length ≤ 2048; rw [List.length_append]; show _ + 1 ≤ _; omega⟩
    · rename_i h4
      exact ⟨h1, by rw [List.length_append]; show _ + 1 + (left - 1) ≤ 2048; omega, by omega⟩
  | chk h c =>
    obtain ⟨h1, h2⟩ := hs
    simp only [wst] at h0 ⊢
    split
    · exact ⟨h1, h2⟩
    · rename_i he
      have h3 := (h2.stp hb (by simpa using he)).1
      split
      · exact ⟨h1.m, h1.t, h1.k, h3.b⟩
      · exact ⟨h1, h3⟩
  | done x => simp [wst] at h0
set_option maxRecDepth 100000 in
theorem run_sz : ∀ (l : List Int) (s : WS) (k : Nat), SzI s → Byt l → (runQ wp0 s l k).2.2 = 0 → SzI (.done (runQ wp0 s l k).1)
  | [], s, k, hs, _, h0 => by
    cases ho : s.over with
    | true =>
      cases s with
      | done x => exact hs
      | head h l c u => cases ho
      | fix h n u => cases ho
      | chk h c => cases ho
    | false => rw [runQ_nil wp0 ho] at h0; simp at h0
  | b :: r, s, k, hs, hb, h0 => by
    cases ho : s.over with
    | true =>
      cases s with
      | done x => rw [runQ_done]; exact hs
      | head h l c u => cases ho
      | fix h n u => cases ho
      | chk h c => cases ho
    | false =>
      rw [runQ_cons wp0 ho] at h0 ⊢
      by_cases he : (wst wp0 s b).2 ≠ 0
      · rw [if_pos he] at h0; exact absurd h0 he
      · rw [if_neg he] at h0 ⊢
        exact run_sz r _ _ (wst_sz hs (hb b (by simp)) (by simpa using he)) (fun c hc => hb c (by simp [hc])) h0
set_option maxRecDepth 100000 in
theorem wrL_byt {x : WX} (h : Byt x.b) : Byt (wrL x) := (strL_byt _).append h
set_option maxRecDepth 100000 in
/-- a request that is one is not long -/
theorem prB_small {x : WX} (hb : Byt x.b) (h : prB x = true) : x.m.size ≤ 10 ∧ x.t.size ≤ 100 ∧ x.k.size ≤ 1100 ∧ x.b.length ≤ 2048 := by
  have e := (prB_iff x).1 h
  have h0 : (runQ wp0 ws0 (wrL x) 0).2.2 = 0 := by show (prT x).2.2 = 0; rw [e]
  have hz : SzI ws0 := ⟨⟨by decide, by decide, by decide, by decide⟩, Nat.le_refl _, Nat.zero_le _⟩
  have := run_sz (wrL x) ws0 0 hz (wrL_byt hb) h0
  have e1 : (runQ wp0 ws0 (wrL x) 0).1 = x := by show (prT x).1 = x; rw [e]
  rw [e1] at this
  exact this
end Go.Proofs.YtdameoejigpnhaaGreatDoor
namespace Go.Proofs.YtdameoejigpnhaaGreatDoor
open Go.RowKit
set_option linter.unusedVariables false

set_option maxRecDepth 100000 in
theorem ba_assoc (a b c : ByteArray) : (a ++ b) ++ c = a ++ (b ++ c) := by
  apply ba_ext
  simp only [ByteArray.data_append, Array.toList_append, List.append_assoc]
def hvB : ByteArray := ⟨#[32, 72, 84, 84, 80, 47, 49, 46, 49, 13, 10]⟩
set_option maxRecDepth 100000 in
theorem wrA_eq (x : WX) : ((x.m ++ ⟨#[32]⟩) ++ x.t) ++ ⟨#[32, 72, 84, 84, 80, 47, 49, 46, 49, 13, 10]⟩ = wrA x := by
  unfold wrA
  rw [ba_assoc, ba_assoc (((x.m ++ ⟨#[32]⟩) ++ x.t) ++ ⟨#[32]⟩), ba_assoc ((x.m ++ ⟨#[32]⟩) ++ x.t), ba_assoc (x.m ++ ⟨#[32]⟩) x.t]
  rfl
set_option maxRecDepth 100000 in
theorem auth_eq (s k : ByteArray) : ((s ++ ⟨#[65, 117, 116, 104, 111, 114, 105, 122, 97, 116, 105, 111, 110, 58, 32, 66, 101, 97, 114, 101, 114, 32]⟩) ++ k) ++ ⟨#[13, 10]⟩ = s ++ authB k := by
  unfold authB; simp only [ba_assoc]
set_option maxRecDepth 100000 in
theorem len_eq (s : ByteArray) (n : Nat) : ((s ++ ⟨#[67, 111, 110, 116, 101, 110, 116, 45, 76, 101, 110, 103, 116, 104, 58, 32]⟩) ++ decB n) ++ ⟨#[13, 10]⟩ = s ++ lenB n := by
  unfold lenB lenH; simp only [ba_assoc]
set_option maxRecDepth 100000 in
set_option maxHeartbeats 2000000 in
theorem rprint_any (x : WX) (a : Option Addr) (n c : Nat) (w : World) (hb : Bts w a n c x.b) (hs : Sml x) :
    Calls Tryz.prog 24 #[reqV x (.slice a n c)] w (PrP x w) := by
  have hn := hb.len_eq
  have hB1 : Below w.heap.size w (w.alloc (.cells #[.string x.m, .string x.t, .string x.k, .slice a n c] 26)) := (Below.refl _ _).alloc (Nat.le_refl _) _
  have HB1 := Bx.mk hB1
  have HBT := Bx.mk (hb.below hB1)
  have HBYX := Bx.mk hb.byt
  have HS := Bx.mk hs
  have hsm := hs.m
  have hst := hs.t
  have hsk := hs.k
  have hsb := hs.b
  have HROW : Bx ((w.alloc (.cells #[.string x.m, .string x.t, .string x.k, .slice a n c] 26)).heap[w.heap.size]? = some (.cells #[.string x.m, .string x.t, .string x.k, .slice a n c] 26 (0, 0))) := ⟨heap_alloc_new w _⟩
  have HSZ : Bx ((w.alloc (.cells #[.string x.m, .string x.t, .string x.k, .slice a n c] 26)).heap.size = w.heap.size + 1) := ⟨by simp⟩
  clear hB1 hb hs
  unfold reqV
  generalize hw1 : w.alloc (.cells #[.string x.m, .string x.t, .string x.k, .slice a n c] 26) = W1 at *
  have q0 : W1.cell? ⟨w.heap.size, 0, none⟩ = some (.string x.m) := by rw [cell_of_row _ w.heap.size 0 _ _ (0, 0) HROW.out]; rfl
  have q1 : W1.cell? ⟨w.heap.size, 1, none⟩ = some (.string x.t) := by rw [cell_of_row _ w.heap.size 1 _ _ (0, 0) HROW.out]; rfl
  have q2 : W1.cell? ⟨w.heap.size, 2, none⟩ = some (.string x.k) := by rw [cell_of_row _ w.heap.size 2 _ _ (0, 0) HROW.out]; rfl
  have q3 : W1.cell? ⟨w.heap.size, 3, none⟩ = some (.slice a n c) := by rw [cell_of_row _ w.heap.size 3 _ _ (0, 0) HROW.out]; rfl
  have HNO : Bx (¬ (x.m.size ≤ 10 ∧ x.t.size ≤ 100 ∧ x.k.size ≤ 1100 ∧ n ≤ 2048) → prB x = false) := ⟨fun h => by
    cases hp : prB x with
    | false => rfl
    | true => exact absurd (hn ▸ prB_small HBYX.out hp) h⟩
  by_cases hm : x.m.size ≤ 10
  · have g1 : ¬ (x.m.size : Int) > 10 := by omega
    by_cases ht : x.t.size ≤ 100
    · have g2 : ¬ (x.t.size : Int) > 100 := by omega
      by_cases hk : x.k.size ≤ 1100
      · have g3 : ¬ (x.k.size : Int) > 1100 := by omega
        by_cases hbn : n ≤ 2048
        · have g4 : ¬ (n : Int) > 2048 := by omega
          have hsA := wrA_size HS.out
          have hsT := wrT_size HS.out
          have hsN := wrN_size HS.out
          have hsU := authB_size HS.out
          have hsL := lenB_size x.b.length (by omega)
          have eA := wrA_eq x
          have HLEN : Bx ((wrL x).length = (wrB x).size + n) := ⟨by unfold wrL; rw [List.length_append, strL_length, hn]⟩
          have HSB := Bx.mk (wrB_size HS.out)
          have HT : Bx (wrT x = if x.k.size = 0 then wrA x else wrA x ++ authB x.k) := ⟨rfl⟩
          have HN : Bx (wrN x = if x.b.length = 0 then wrT x else wrT x ++ lenB x.b.length) := ⟨rfl⟩
          have HCV : Bx (∀ W : World, ∃ c2 w2, (convert 9 22 (.string (wrB x))).run Tryz.prog W = .ok (.slice (some ⟨W.heap.size, 0, none⟩) (wrB x).size c2) w2 ∧ Below W.heap.size W w2 ∧ Cv w2 W.heap.size (wrB x).size c2 (strL (wrB x))) := ⟨fun W => conv_cv W (wrB x) (by have := HSB.out.1; unfold maxLen; omega)⟩
          have HFIN : Bx (strL (wrB x) ++ x.b = wrL x) := ⟨rfl⟩
          have C1 : Hid (∀ W, Calls Tryz.prog 38 #[.int .i64 (n : Int)] W fun e w' => e = .returned (.string (decB n)) ∧ W = w') := fun W => (refdec_any (n : Int).natAbs (n : Int) W (Nat.le_refl _) (by omega) (by omega)).mono fun e w' h => ⟨h.1, h.2.symm⟩
          have hsD := decB_size n (by omega)
          have e1 := auth_eq (wrA x) x.k
          have e2 := len_eq (wrT x) n
          rw [hn] at HN hsL
          have HNB : Bx (wrN x ++ ⟨#[13, 10]⟩ = wrB x) := ⟨rfl⟩
          have hsx1 : (x.m ++ ⟨#[32]⟩ : ByteArray).size ≤ 60 := by rw [size_append]; show _ + 1 ≤ 60; omega
          clear hm ht hk hbn HNO
          go_enter Tryz.func24, Tryz.ntmps24
          obtain ⟨c2, w3, hcv, hb3, hC⟩ := HCV.out W1
          have HB3 : Bx (Below W1.heap.size W1 w3) := ⟨hb3⟩
          have hr3 : w3.heap[w.heap.size]? = some (.cells #[.string x.m, .string x.t, .string x.k, .slice a n c] 26 (0, 0)) := by rw [hb3.block _ (by have := HSZ.out; have := HB1.out.size; omega)]; exact HROW.out
          have k3 : w3.cell? ⟨w.heap.size, 3, none⟩ = some (.slice a n c) := by rw [cell_of_row w3 w.heap.size 3 _ _ (0, 0) hr3]; rfl
          have HBT3 := Bx.mk (HBT.out.below hb3)
          have HC := Bx.mk hC
          have HBS : Bx (W1.heap.size ≤ W1.heap.size) := ⟨Nat.le_refl _⟩
          have HR3 := Bx.mk hr3
          clear hb3 hC hr3 HCV
          generalize wrB x = WB at *
          generalize wrA x = A at *
          generalize authB x.k = U at *
          generalize wrT x = T at *
          generalize wrN x = N at *
          generalize lenB n = LB at *
          by_cases hk : x.k.size = 0
          · have gk : ¬ (x.k.size : Int) > 0 := by omega
            have hTA : T = A := by rw [HT.out, if_pos hk]
            rw [hTA] at HN e2 hsT
            clear hTA hk e1
            by_cases h0 : n = 0
            · have hNT : N = A := by rw [HN.out, if_pos h0]
              have g0 : ¬ (n : Int) > 0 := by omega
              rw [hNT] at HNB hsN
              have eB : A ++ ⟨#[13, 10]⟩ = WB := HNB.out
              clear HT HN h0 hNT e2 HNB
              go_wp2_with (at_builtin; refine wpList_append_cv rfl (.tmp 62) (.tmp 64) rfl HB3.out HBS.out HC.out rfl HSB.out.2 a n c x.b rfl HBT3.out (by have := HSB.out.1; omega) ?_; intro b2 c5 w2 hbt2 hbl2 hbb2; have HBT2 := Bx.mk hbt2; have HBL2 := Bx.mk hbl2; clear hbt2 hbl2 hbb2)
              rw [HFIN.out] at HBT2
              have HB2 : Bx (Below w.heap.size w w2) := ⟨bstep HB1.out HBL2.out⟩
              have HXB2 : Bx (Bts w2 a n c x.b) := ⟨HBT.out.below HBL2.out⟩
              have HROW2 : Bx (w2.heap[w.heap.size]? = some (.cells #[.string x.m, .string x.t, .string x.k, .slice a n c] 26 (0, 0))) := ⟨by rw [HBL2.out.block _ (by have := HSZ.out; omega)]; exact HROW.out⟩
              rw [← HLEN.out] at HBT2 ⊢
              refine (rwholeq_any _ _ _ _ _ HBT2.out (by have h1 := HLEN.out; have h2 := HSB.out.1; omega)).mono ?_
              rintro e w3 ⟨v3, rfl, hy3, ho3, hb3⟩
              obtain ⟨va, vc, rfl, hq3⟩ := wh_body hy3 ho3
              have HPT : Bx (prT x = runQ wp0 ws0 (wrL x) 0) := ⟨rfl⟩
              have HPB : Bx (prB x = (decide ((prT x).2.2 = 0) && (decide ((prT x).2.1 = (wrL x).length) && smW x (prT x).1))) := ⟨rfl⟩
              rw [HPT.out] at HPB
              generalize runQ wp0 ws0 (wrL x) 0 = T at *
              obtain ⟨T1, T2, T3⟩ := T
              have hb4 : Below w3.heap.size w3 (w3.alloc (.cells #[.string T1.m, .string T1.t, .string T1.k, .slice va T1.b.length vc] 26)) := (Below.refl _ _).alloc (Nat.le_refl _) _
              have HB4 := Bx.mk (bstep (bstep HB2.out hb3) hb4)
              have HBT4 := Bx.mk ((HBT2.out.below hb3).below hb4)
              have HXB4 := Bx.mk ((HXB2.out.below hb3).below hb4)
              have HQ4 := Bx.mk (hq3.below hb4)
              have hz2 := (Array.getElem?_eq_some_iff.1 HROW2.out).1
              have HRX : Bx ((w3.alloc (.cells #[.string T1.m, .string T1.t, .string T1.k, .slice va T1.b.length vc] 26)).heap[w.heap.size]? = some (.cells #[.string x.m, .string x.t, .string x.k, .slice a n c] 26 (0, 0))) := ⟨by rw [hb4.block _ (Nat.lt_of_lt_of_le hz2 hb3.size), hb3.block _ hz2]; exact HROW2.out⟩
              have HRY : Bx ((w3.alloc (.cells #[.string T1.m, .string T1.t, .string T1.k, .slice va T1.b.length vc] 26)).heap[w3.heap.size]? = some (.cells #[.string T1.m, .string T1.t, .string T1.k, .slice va T1.b.length vc] 26 (0, 0))) := ⟨heap_alloc_new w3 _⟩
              obtain ⟨W4, hW4⟩ : ∃ W4, w3.alloc (.cells #[.string T1.m, .string T1.t, .string T1.k, .slice va T1.b.length vc] 26) = W4 := ⟨_, rfl⟩
              rw [hW4] at HB4 HBT4 HXB4 HQ4 HRX HRY
              have HW4 := Bx.mk hW4
              have C2 : Hid (Calls Tryz.prog 13 #[.agg #[.string x.m, .string x.t, .string x.k, .slice a n c], .agg #[.string T1.m, .string T1.t, .string T1.k, .slice va T1.b.length vc]] W4 fun e w' => e = .returned (.bool (smW x T1)) ∧ Below W4.heap.size W4 w') := rsame_any x T1 a va n T1.b.length c vc W4 HXB4.out HQ4.out
              have x0 : W4.cell? ⟨w.heap.size, 0, none⟩ = some (.string x.m) := by rw [cell_of_row _ w.heap.size 0 _ _ (0, 0) HRX.out]; rfl
              have x1 : W4.cell? ⟨w.heap.size, 1, none⟩ = some (.string x.t) := by rw [cell_of_row _ w.heap.size 1 _ _ (0, 0) HRX.out]; rfl
              have x2 : W4.cell? ⟨w.heap.size, 2, none⟩ = some (.string x.k) := by rw [cell_of_row _ w.heap.size 2 _ _ (0, 0) HRX.out]; rfl
              have x3 : W4.cell? ⟨w.heap.size, 3, none⟩ = some (.slice a n c) := by rw [cell_of_row _ w.heap.size 3 _ _ (0, 0) HRX.out]; rfl
              have y0 : W4.cell? ⟨w3.heap.size, 0, none⟩ = some (.string T1.m) := by rw [cell_of_row _ w3.heap.size 0 _ _ (0, 0) HRY.out]; rfl
              have y1 : W4.cell? ⟨w3.heap.size, 1, none⟩ = some (.string T1.t) := by rw [cell_of_row _ w3.heap.size 1 _ _ (0, 0) HRY.out]; rfl
              have y2 : W4.cell? ⟨w3.heap.size, 2, none⟩ = some (.string T1.k) := by rw [cell_of_row _ w3.heap.size 2 _ _ (0, 0) HRY.out]; rfl
              have y3 : W4.cell? ⟨w3.heap.size, 3, none⟩ = some (.slice va T1.b.length vc) := by rw [cell_of_row _ w3.heap.size 3 _ _ (0, 0) HRY.out]; rfl
              simp only at HPB
              obtain ⟨N, hN⟩ : ∃ N, (wrL x).length = N := ⟨_, rfl⟩
              rw [hN] at HPB HBT4 ⊢
              have HNN := Bx.mk hN
              clear hW4 hb4 hb3 ho3 hq3 hy3 hz2 HBT2 HXB2 HROW HROW2 HBT hN HPT q0 q1 q2 q3 k3 C1 hcv
              generalize hSM : smW x T1 = SM at *
              unfold reqV
              simp only
              go_upto_region 10 with (rw [HW4.out]; clear HW4)
              by_cases h3 : T3 = 0
              · have g3 : (T3 != 0) = false := by simpa using h3
                by_cases h2 : T2 = N
                · have g2 : ((T2 : Int) != (N : Int)) = false := by simp [h2]
                  have HR : Bx (prB x = SM) := ⟨by rw [HPB.out, decide_eq_true h3, decide_eq_true h2]; rfl⟩
                  clear h3 h2 HPB
                  go_wp2_with fail
                  refine C2.out.mono ?_
                  rintro e w6 ⟨rfl, hb6⟩
                  have HB6 := Bx.mk (bstep HB4.out hb6)
                  have HBT6 := Bx.mk (HBT4.out.below hb6)
                  clear hb6
                  cases SM with
                  | true =>
                    go_wp2
                    go_ret2
                    exact ⟨HB6.out, .inl ⟨HR.out, b2, c5, by rw [HNN.out]; rfl, by rw [HNN.out]; exact HBT6.out⟩⟩
                  | false =>
                    go_wp2
                    go_ret2
                    exact ⟨HB6.out, .inr ⟨HR.out, rfl⟩⟩
                · have g2 : ((T2 : Int) != (N : Int)) = true := by simp; omega
                  have HR : Bx (prB x = false) := ⟨by rw [HPB.out, decide_eq_false h2]; simp⟩
                  clear h3 h2 HPB
                  go_wp2
                  go_ret2
                  exact ⟨HB4.out, .inr ⟨HR.out, rfl⟩⟩
              · have g3 : (T3 != 0) = true := by simpa using h3
                have HR : Bx (prB x = false) := ⟨by rw [HPB.out, decide_eq_false h3]; rfl⟩
                clear h3 HPB
                go_wp2
                go_ret2
                exact ⟨HB4.out, .inr ⟨HR.out, rfl⟩⟩
            · have eN : A ++ LB = N := by rw [HN.out, if_neg h0]
              have g0 : (n : Int) > 0 := by omega
              rw [eN] at e2
              have eB : N ++ ⟨#[13, 10]⟩ = WB := HNB.out
              clear HT HN h0 eN HNB
              go_wp2_with fail
              refine (C1.out _).mono ?_
              rintro e w2 ⟨rfl, rfl⟩
              go_wp2_with (at_builtin; refine wpList_append_cv rfl (.tmp 62) (.tmp 64) rfl HB3.out HBS.out HC.out rfl HSB.out.2 a n c x.b rfl HBT3.out (by have := HSB.out.1; omega) ?_; intro b2 c5 w2 hbt2 hbl2 hbb2; have HBT2 := Bx.mk hbt2; have HBL2 := Bx.mk hbl2; clear hbt2 hbl2 hbb2)
              rw [HFIN.out] at HBT2
              have HB2 : Bx (Below w.heap.size w w2) := ⟨bstep HB1.out HBL2.out⟩
              have HXB2 : Bx (Bts w2 a n c x.b) := ⟨HBT.out.below HBL2.out⟩
              have HROW2 : Bx (w2.heap[w.heap.size]? = some (.cells #[.string x.m, .string x.t, .string x.k, .slice a n c] 26 (0, 0))) := ⟨by rw [HBL2.out.block _ (by have := HSZ.out; omega)]; exact HROW.out⟩
              rw [← HLEN.out] at HBT2 ⊢
              refine (rwholeq_any _ _ _ _ _ HBT2.out (by have h1 := HLEN.out; have h2 := HSB.out.1; omega)).mono ?_
              rintro e w3 ⟨v3, rfl, hy3, ho3, hb3⟩
              obtain ⟨va, vc, rfl, hq3⟩ := wh_body hy3 ho3
              have HPT : Bx (prT x = runQ wp0 ws0 (wrL x) 0) := ⟨rfl⟩
              have HPB : Bx (prB x = (decide ((prT x).2.2 = 0) && (decide ((prT x).2.1 = (wrL x).length) && smW x (prT x).1))) := ⟨rfl⟩
              rw [HPT.out] at HPB
              generalize runQ wp0 ws0 (wrL x) 0 = T at *
              obtain ⟨T1, T2, T3⟩ := T
              have hb4 : Below w3.heap.size w3 (w3.alloc (.cells #[.string T1.m, .string T1.t, .string T1.k, .slice va T1.b.length vc] 26)) := (Below.refl _ _).alloc (Nat.le_refl _) _
              have HB4 := Bx.mk (bstep (bstep HB2.out hb3) hb4)
              have HBT4 := Bx.mk ((HBT2.out.below hb3).below hb4)
              have HXB4 := Bx.mk ((HXB2.out.below hb3).below hb4)
              have HQ4 := Bx.mk (hq3.below hb4)
              have hz2 := (Array.getElem?_eq_some_iff.1 HROW2.out).1
              have HRX : Bx ((w3.alloc (.cells #[.string T1.m, .string T1.t, .string T1.k, .slice va T1.b.length vc] 26)).heap[w.heap.size]? = some (.cells #[.string x.m, .string x.t, .string x.k, .slice a n c] 26 (0, 0))) := ⟨by rw [hb4.block _ (Nat.lt_of_lt_of_le hz2 hb3.size), hb3.block _ hz2]; exact HROW2.out⟩
              have HRY : Bx ((w3.alloc (.cells #[.string T1.m, .string T1.t, .string T1.k, .slice va T1.b.length vc] 26)).heap[w3.heap.size]? = some (.cells #[.string T1.m, .string T1.t, .string T1.k, .slice va T1.b.length vc] 26 (0, 0))) := ⟨heap_alloc_new w3 _⟩
              obtain ⟨W4, hW4⟩ : ∃ W4, w3.alloc (.cells #[.string T1.m, .string T1.t, .string T1.k, .slice va T1.b.length vc] 26) = W4 := ⟨_, rfl⟩
              rw [hW4] at HB4 HBT4 HXB4 HQ4 HRX HRY
              have HW4 := Bx.mk hW4
              have C2 : Hid (Calls Tryz.prog 13 #[.agg #[.string x.m, .string x.t, .string x.k, .slice a n c], .agg #[.string T1.m, .string T1.t, .string T1.k, .slice va T1.b.length vc]] W4 fun e w' => e = .returned (.bool (smW x T1)) ∧ Below W4.heap.size W4 w') := rsame_any x T1 a va n T1.b.length c vc W4 HXB4.out HQ4.out
              have x0 : W4.cell? ⟨w.heap.size, 0, none⟩ = some (.string x.m) := by rw [cell_of_row _ w.heap.size 0 _ _ (0, 0) HRX.out]; rfl
              have x1 : W4.cell? ⟨w.heap.size, 1, none⟩ = some (.string x.t) := by rw [cell_of_row _ w.heap.size 1 _ _ (0, 0) HRX.out]; rfl
              have x2 : W4.cell? ⟨w.heap.size, 2, none⟩ = some (.string x.k) := by rw [cell_of_row _ w.heap.size 2 _ _ (0, 0) HRX.out]; rfl
              have x3 : W4.cell? ⟨w.heap.size, 3, none⟩ = some (.slice a n c) := by rw [cell_of_row _ w.heap.size 3 _ _ (0, 0) HRX.out]; rfl
              have y0 : W4.cell? ⟨w3.heap.size, 0, none⟩ = some (.string T1.m) := by rw [cell_of_row _ w3.heap.size 0 _ _ (0, 0) HRY.out]; rfl
              have y1 : W4.cell? ⟨w3.heap.size, 1, none⟩ = some (.string T1.t) := by rw [cell_of_row _ w3.heap.size 1 _ _ (0, 0) HRY.out]; rfl
              have y2 : W4.cell? ⟨w3.heap.size, 2, none⟩ = some (.string T1.k) := by rw [cell_of_row _ w3.heap.size 2 _ _ (0, 0) HRY.out]; rfl
              have y3 : W4.cell? ⟨w3.heap.size, 3, none⟩ = some (.slice va T1.b.length vc) := by rw [cell_of_row _ w3.heap.size 3 _ _ (0, 0) HRY.out]; rfl
              simp only at HPB
              obtain ⟨N, hN⟩ : ∃ N, (wrL x).length = N := ⟨_, rfl⟩
              rw [hN] at HPB HBT4 ⊢
              have HNN := Bx.mk hN
              clear hW4 hb4 hb3 ho3 hq3 hy3 hz2 HBT2 HXB2 HROW HROW2 HBT hN HPT q0 q1 q2 q3 k3 C1 hcv
              generalize hSM : smW x T1 = SM at *
              unfold reqV
              simp only
              go_upto_region 10 with (rw [HW4.out]; clear HW4)
              by_cases h3 : T3 = 0
              · have g3 : (T3 != 0) = false := by simpa using h3
                by_cases h2 : T2 = N
                · have g2 : ((T2 : Int) != (N : Int)) = false := by simp [h2]
                  have HR : Bx (prB x = SM) := ⟨by rw [HPB.out, decide_eq_true h3, decide_eq_true h2]; rfl⟩
                  clear h3 h2 HPB
                  go_wp2_with fail
                  refine C2.out.mono ?_
                  rintro e w6 ⟨rfl, hb6⟩
                  have HB6 := Bx.mk (bstep HB4.out hb6)
                  have HBT6 := Bx.mk (HBT4.out.below hb6)
                  clear hb6
                  cases SM with
                  | true =>
                    go_wp2
                    go_ret2
                    exact ⟨HB6.out, .inl ⟨HR.out, b2, c5, by rw [HNN.out]; rfl, by rw [HNN.out]; exact HBT6.out⟩⟩
                  | false =>
                    go_wp2
                    go_ret2
                    exact ⟨HB6.out, .inr ⟨HR.out, rfl⟩⟩
                · have g2 : ((T2 : Int) != (N : Int)) = true := by simp; omega
                  have HR : Bx (prB x = false) := ⟨by rw [HPB.out, decide_eq_false h2]; simp⟩
                  clear h3 h2 HPB
                  go_wp2
                  go_ret2
                  exact ⟨HB4.out, .inr ⟨HR.out, rfl⟩⟩
              · have g3 : (T3 != 0) = true := by simpa using h3
                have HR : Bx (prB x = false) := ⟨by rw [HPB.out, decide_eq_false h3]; rfl⟩
                clear h3 HPB
                go_wp2
                go_ret2
                exact ⟨HB4.out, .inr ⟨HR.out, rfl⟩⟩
          · have gk : (x.k.size : Int) > 0 := by omega
            have eT : A ++ U = T := by rw [HT.out, if_neg hk]
            rw [eT] at e1
            clear eT hk
            by_cases h0 : n = 0
            · have hNT : N = T := by rw [HN.out, if_pos h0]
              have g0 : ¬ (n : Int) > 0 := by omega
              rw [hNT] at HNB hsN
              have eB : T ++ ⟨#[13, 10]⟩ = WB := HNB.out
              clear HT HN h0 hNT e2 HNB
              go_wp2_with (at_builtin; refine wpList_append_cv rfl (.tmp 62) (.tmp 64) rfl HB3.out HBS.out HC.out rfl HSB.out.2 a n c x.b rfl HBT3.out (by have := HSB.out.1; omega) ?_; intro b2 c5 w2 hbt2 hbl2 hbb2; have HBT2 := Bx.mk hbt2; have HBL2 := Bx.mk hbl2; clear hbt2 hbl2 hbb2)
              rw [HFIN.out] at HBT2
              have HB2 : Bx (Below w.heap.size w w2) := ⟨bstep HB1.out HBL2.out⟩
              have HXB2 : Bx (Bts w2 a n c x.b) := ⟨HBT.out.below HBL2.out⟩
              have HROW2 : Bx (w2.heap[w.heap.size]? = some (.cells #[.string x.m, .string x.t, .string x.k, .slice a n c] 26 (0, 0))) := ⟨by rw [HBL2.out.block _ (by have := HSZ.out; omega)]; exact HROW.out⟩
              rw [← HLEN.out] at HBT2 ⊢
              refine (rwholeq_any _ _ _ _ _ HBT2.out (by have h1 := HLEN.out; have h2 := HSB.out.1; omega)).mono ?_
              rintro e w3 ⟨v3, rfl, hy3, ho3, hb3⟩
              obtain ⟨va, vc, rfl, hq3⟩ := wh_body hy3 ho3
              have HPT : Bx (prT x = runQ wp0 ws0 (wrL x) 0) := ⟨rfl⟩
              have HPB : Bx (prB x = (decide ((prT x).2.2 = 0) && (decide ((prT x).2.1 = (wrL x).length) && smW x (prT x).1))) := ⟨rfl⟩
              rw [HPT.out] at HPB
              generalize runQ wp0 ws0 (wrL x) 0 = T at *
              obtain ⟨T1, T2, T3⟩ := T
              have hb4 : Below w3.heap.size w3 (w3.alloc (.cells #[.string T1.m, .string T1.t, .string T1.k, .slice va T1.b.length vc] 26)) := (Below.refl _ _).alloc (Nat.le_refl _) _
              have HB4 := Bx.mk (bstep (bstep HB2.out hb3) hb4)
              have HBT4 := Bx.mk ((HBT2.out.below hb3).below hb4)
              have HXB4 := Bx.mk ((HXB2.out.below hb3).below hb4)
              have HQ4 := Bx.mk (hq3.below hb4)
              have hz2 := (Array.getElem?_eq_some_iff.1 HROW2.out).1
              have HRX : Bx ((w3.alloc (.cells #[.string T1.m, .string T1.t, .string T1.k, .slice va T1.b.length vc] 26)).heap[w.heap.size]? = some (.cells #[.string x.m, .string x.t, .string x.k, .slice a n c] 26 (0, 0))) := ⟨by rw [hb4.block _ (Nat.lt_of_lt_of_le hz2 hb3.size), hb3.block _ hz2]; exact HROW2.out⟩
              have HRY : Bx ((w3.alloc (.cells #[.string T1.m, .string T1.t, .string T1.k, .slice va T1.b.length vc] 26)).heap[w3.heap.size]? = some (.cells #[.string T1.m, .string T1.t, .string T1.k, .slice va T1.b.length vc] 26 (0, 0))) := ⟨heap_alloc_new w3 _⟩
              obtain ⟨W4, hW4⟩ : ∃ W4, w3.alloc (.cells #[.string T1.m, .string T1.t, .string T1.k, .slice va T1.b.length vc] 26) = W4 := ⟨_, rfl⟩
              rw [hW4] at HB4 HBT4 HXB4 HQ4 HRX HRY
              have HW4 := Bx.mk hW4
              have C2 : Hid (Calls Tryz.prog 13 #[.agg #[.string x.m, .string x.t, .string x.k, .slice a n c], .agg #[.string T1.m, .string T1.t, .string T1.k, .slice va T1.b.length vc]] W4 fun e w' => e = .returned (.bool (smW x T1)) ∧ Below W4.heap.size W4 w') := rsame_any x T1 a va n T1.b.length c vc W4 HXB4.out HQ4.out
              have x0 : W4.cell? ⟨w.heap.size, 0, none⟩ = some (.string x.m) := by rw [cell_of_row _ w.heap.size 0 _ _ (0, 0) HRX.out]; rfl
              have x1 : W4.cell? ⟨w.heap.size, 1, none⟩ = some (.string x.t) := by rw [cell_of_row _ w.heap.size 1 _ _ (0, 0) HRX.out]; rfl
              have x2 : W4.cell? ⟨w.heap.size, 2, none⟩ = some (.string x.k) := by rw [cell_of_row _ w.heap.size 2 _ _ (0, 0) HRX.out]; rfl
              have x3 : W4.cell? ⟨w.heap.size, 3, none⟩ = some (.slice a n c) := by rw [cell_of_row _ w.heap.size 3 _ _ (0, 0) HRX.out]; rfl
              have y0 : W4.cell? ⟨w3.heap.size, 0, none⟩ = some (.string T1.m) := by rw [cell_of_row _ w3.heap.size 0 _ _ (0, 0) HRY.out]; rfl
              have y1 : W4.cell? ⟨w3.heap.size, 1, none⟩ = some (.string T1.t) := by rw [cell_of_row _ w3.heap.size 1 _ _ (0, 0) HRY.out]; rfl
              have y2 : W4.cell? ⟨w3.heap.size, 2, none⟩ = some (.string T1.k) := by rw [cell_of_row _ w3.heap.size 2 _ _ (0, 0) HRY.out]; rfl
              have y3 : W4.cell? ⟨w3.heap.size, 3, none⟩ = some (.slice va T1.b.length vc) := by rw [cell_of_row _ w3.heap.size 3 _ _ (0, 0) HRY.out]; rfl
              simp only at HPB
              obtain ⟨N, hN⟩ : ∃ N, (wrL x).length = N := ⟨_, rfl⟩
              rw [hN] at HPB HBT4 ⊢
              have HNN := Bx.mk hN
              clear hW4 hb4 hb3 ho3 hq3 hy3 hz2 HBT2 HXB2 HROW HROW2 HBT hN HPT q0 q1 q2 q3 k3 C1 hcv
              generalize hSM : smW x T1 = SM at *
              unfold reqV
              simp only
              go_upto_region 10 with (rw [HW4.out]; clear HW4)
              by_cases h3 : T3 = 0
              · have g3 : (T3 != 0) = false := by simpa using h3
                by_cases h2 : T2 = N
                · have g2 : ((T2 : Int) != (N : Int)) = false := by simp [h2]
                  have HR : Bx (prB x = SM) := ⟨by rw [HPB.out, decide_eq_true h3, decide_eq_true h2]; rfl⟩
                  clear h3 h2 HPB
                  go_wp2_with fail
                  refine C2.out.mono ?_
                  rintro e w6 ⟨rfl, hb6⟩
                  have HB6 := Bx.mk (bstep HB4.out hb6)
                  have HBT6 := Bx.mk (HBT4.out.below hb6)
                  clear hb6
                  cases SM with
                  | true =>
                    go_wp2
                    go_ret2
                    exact ⟨HB6.out, .inl ⟨HR.out, b2, c5, by rw [HNN.out]; rfl, by rw [HNN.out]; exact HBT6.out⟩⟩
                  | false =>
                    go_wp2
                    go_ret2
                    exact ⟨HB6.out, .inr ⟨HR.out, rfl⟩⟩
                · have g2 : ((T2 : Int) != (N : Int)) = true := by simp; omega
                  have HR : Bx (prB x = false) := ⟨by rw [HPB.out, decide_eq_false h2]; simp⟩
                  clear h3 h2 HPB
                  go_wp2
                  go_ret2
                  exact ⟨HB4.out, .inr ⟨HR.out, rfl⟩⟩
              · have g3 : (T3 != 0) = true := by simpa using h3
                have HR : Bx (prB x = false) := ⟨by rw [HPB.out, decide_eq_false h3]; rfl⟩
                clear h3 HPB
                go_wp2
                go_ret2
                exact ⟨HB4.out, .inr ⟨HR.out, rfl⟩⟩
            · have eN : T ++ LB = N := by rw [HN.out, if_neg h0]
              have g0 : (n : Int) > 0 := by omega
              rw [eN] at e2
              have eB : N ++ ⟨#[13, 10]⟩ = WB := HNB.out
              clear HT HN h0 eN HNB
              go_wp2_with fail
              refine (C1.out _).mono ?_
              rintro e w2 ⟨rfl, rfl⟩
              go_wp2_with (at_builtin; refine wpList_append_cv rfl (.tmp 62) (.tmp 64) rfl HB3.out HBS.out HC.out rfl HSB.out.2 a n c x.b rfl HBT3.out (by have := HSB.out.1; omega) ?_; intro b2 c5 w2 hbt2 hbl2 hbb2; have HBT2 := Bx.mk hbt2; have HBL2 := Bx.mk hbl2; clear hbt2 hbl2 hbb2)
              rw [HFIN.out] at HBT2
              have HB2 : Bx (Below w.heap.size w w2) := ⟨bstep HB1.out HBL2.out⟩
              have HXB2 : Bx (Bts w2 a n c x.b) := ⟨HBT.out.below HBL2.out⟩
              have HROW2 : Bx (w2.heap[w.heap.size]? = some (.cells #[.string x.m, .string x.t, .string x.k, .slice a n c] 26 (0, 0))) := ⟨by rw [HBL2.out.block _ (by have := HSZ.out; omega)]; exact HROW.out⟩
              rw [← HLEN.out] at HBT2 ⊢
              refine (rwholeq_any _ _ _ _ _ HBT2.out (by have h1 := HLEN.out; have h2 := HSB.out.1; omega)).mono ?_
              rintro e w3 ⟨v3, rfl, hy3, ho3, hb3⟩
              obtain ⟨va, vc, rfl, hq3⟩ := wh_body hy3 ho3
              have HPT : Bx (prT x = runQ wp0 ws0 (wrL x) 0) := ⟨rfl⟩
              have HPB : Bx (prB x = (decide ((prT x).2.2 = 0) && (decide ((prT x).2.1 = (wrL x).length) && smW x (prT x).1))) := ⟨rfl⟩
              rw [HPT.out] at HPB
              generalize runQ wp0 ws0 (wrL x) 0 = T at *
              obtain ⟨T1, T2, T3⟩ := T
              have hb4 : Below w3.heap.size w3 (w3.alloc (.cells #[.string T1.m, .string T1.t, .string T1.k, .slice va T1.b.length vc] 26)) := (Below.refl _ _).alloc (Nat.le_refl _) _
              have HB4 := Bx.mk (bstep (bstep HB2.out hb3) hb4)
              have HBT4 := Bx.mk ((HBT2.out.below hb3).below hb4)
              have HXB4 := Bx.mk ((HXB2.out.below hb3).below hb4)
              have HQ4 := Bx.mk (hq3.below hb4)
              have hz2 := (Array.getElem?_eq_some_iff.1 HROW2.out).1
              have HRX : Bx ((w3.alloc (.cells #[.string T1.m, .string T1.t, .string T1.k, .slice va T1.b.length vc] 26)).heap[w.heap.size]? = some (.cells #[.string x.m, .string x.t, .string x.k, .slice a n c] 26 (0, 0))) := ⟨by rw [hb4.block _ (Nat.lt_of_lt_of_le hz2 hb3.size), hb3.block _ hz2]; exact HROW2.out⟩
              have HRY : Bx ((w3.alloc (.cells #[.string T1.m, .string T1.t, .string T1.k, .slice va T1.b.length vc] 26)).heap[w3.heap.size]? = some (.cells #[.string T1.m, .string T1.t, .string T1.k, .slice va T1.b.length vc] 26 (0, 0))) := ⟨heap_alloc_new w3 _⟩
              obtain ⟨W4, hW4⟩ : ∃ W4, w3.alloc (.cells #[.string T1.m, .string T1.t, .string T1.k, .slice va T1.b.length vc] 26) = W4 := ⟨_, rfl⟩
              rw [hW4] at HB4 HBT4 HXB4 HQ4 HRX HRY
              have HW4 := Bx.mk hW4
              have C2 : Hid (Calls Tryz.prog 13 #[.agg #[.string x.m, .string x.t, .string x.k, .slice a n c], .agg #[.string T1.m, .string T1.t, .string T1.k, .slice va T1.b.length vc]] W4 fun e w' => e = .returned (.bool (smW x T1)) ∧ Below W4.heap.size W4 w') := rsame_any x T1 a va n T1.b.length c vc W4 HXB4.out HQ4.out
              have x0 : W4.cell? ⟨w.heap.size, 0, none⟩ = some (.string x.m) := by rw [cell_of_row _ w.heap.size 0 _ _ (0, 0) HRX.out]; rfl
              have x1 : W4.cell? ⟨w.heap.size, 1, none⟩ = some (.string x.t) := by rw [cell_of_row _ w.heap.size 1 _ _ (0, 0) HRX.out]; rfl
              have x2 : W4.cell? ⟨w.heap.size, 2, none⟩ = some (.string x.k) := by rw [cell_of_row _ w.heap.size 2 _ _ (0, 0) HRX.out]; rfl
              have x3 : W4.cell? ⟨w.heap.size, 3, none⟩ = some (.slice a n c) := by rw [cell_of_row _ w.heap.size 3 _ _ (0, 0) HRX.out]; rfl
              have y0 : W4.cell? ⟨w3.heap.size, 0, none⟩ = some (.string T1.m) := by rw [cell_of_row _ w3.heap.size 0 _ _ (0, 0) HRY.out]; rfl
              have y1 : W4.cell? ⟨w3.heap.size, 1, none⟩ = some (.string T1.t) := by rw [cell_of_row _ w3.heap.size 1 _ _ (0, 0) HRY.out]; rfl
              have y2 : W4.cell? ⟨w3.heap.size, 2, none⟩ = some (.string T1.k) := by rw [cell_of_row _ w3.heap.size 2 _ _ (0, 0) HRY.out]; rfl
              have y3 : W4.cell? ⟨w3.heap.size, 3, none⟩ = some (.slice va T1.b.length vc) := by rw [cell_of_row _ w3.heap.size 3 _ _ (0, 0) HRY.out]; rfl
              simp only at HPB
              obtain ⟨N, hN⟩ : ∃ N, (wrL x).length = N := ⟨_, rfl⟩
              rw [hN] at HPB HBT4 ⊢
              have HNN := Bx.mk hN
              clear hW4 hb4 hb3 ho3 hq3 hy3 hz2 HBT2 HXB2 HROW HROW2 HBT hN HPT q0 q1 q2 q3 k3 C1 hcv
              generalize hSM : smW x T1 = SM at *
              unfold reqV
              simp only
              go_upto_region 10 with (rw [HW4.out]; clear HW4)
              by_cases h3 : T3 = 0
              · have g3 : (T3 != 0) = false := by simpa using h3
                by_cases h2 : T2 = N
                · have g2 : ((T2 : Int) != (N : Int)) = false := by simp [h2]
                  have HR : Bx (prB x = SM) := ⟨by rw [HPB.out, decide_eq_true h3, decide_eq_true h2]; rfl⟩
                  clear h3 h2 HPB
                  go_wp2_with fail
                  refine C2.out.mono ?_
                  rintro e w6 ⟨rfl, hb6⟩
                  have HB6 := Bx.mk (bstep HB4.out hb6)
                  have HBT6 := Bx.mk (HBT4.out.below hb6)
                  clear hb6
                  cases SM with
                  | true =>
                    go_wp2
                    go_ret2
                    exact ⟨HB6.out, .inl ⟨HR.out, b2, c5, by rw [HNN.out]; rfl, by rw [HNN.out]; exact HBT6.out⟩⟩
                  | false =>
                    go_wp2
                    go_ret2
                    exact ⟨HB6.out, .inr ⟨HR.out, rfl⟩⟩
                · have g2 : ((T2 : Int) != (N : Int)) = true := by simp; omega
                  have HR : Bx (prB x = false) := ⟨by rw [HPB.out, decide_eq_false h2]; simp⟩
                  clear h3 h2 HPB
                  go_wp2
                  go_ret2
                  exact ⟨HB4.out, .inr ⟨HR.out, rfl⟩⟩
              · have g3 : (T3 != 0) = true := by simpa using h3
                have HR : Bx (prB x = false) := ⟨by rw [HPB.out, decide_eq_false h3]; rfl⟩
                clear h3 HPB
                go_wp2
                go_ret2
                exact ⟨HB4.out, .inr ⟨HR.out, rfl⟩⟩
        · have g4 : (n : Int) > 2048 := by omega
          have HP := Bx.mk (HNO.out (fun h => hbn h.2.2.2))
          clear hm ht hk hbn HNO
          go_enter Tryz.func24, Tryz.ntmps24
          go_wp2
          go_ret2
          exact ⟨HB1.out, .inr ⟨HP.out, rfl⟩⟩
      · have g3 : (x.k.size : Int) > 1100 := by omega
        have HP := Bx.mk (HNO.out (fun h => hk h.2.2.1))
        clear hm ht hk HNO
        go_enter Tryz.func24, Tryz.ntmps24
        go_wp2
        go_ret2
        exact ⟨HB1.out, .inr ⟨HP.out, rfl⟩⟩
    · have g2 : (x.t.size : Int) > 100 := by omega
      have HP := Bx.mk (HNO.out (fun h => ht h.2.1))
      clear hm ht HNO
      go_enter Tryz.func24, Tryz.ntmps24
      go_wp2
      go_ret2
      exact ⟨HB1.out, .inr ⟨HP.out, rfl⟩⟩
  · have g1 : (x.m.size : Int) > 10 := by omega
    have HP := Bx.mk (HNO.out (fun h => hm h.1))
    clear hm HNO
    go_enter Tryz.func24, Tryz.ntmps24
    go_wp2
    go_ret2
    exact ⟨HB1.out, .inr ⟨HP.out, rfl⟩⟩
end Go.Proofs.YtdameoejigpnhaaGreatDoor
