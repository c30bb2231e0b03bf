/- What the document's Open answers. -/
import Derived.Test.YtdoedkgidcoibaaDoorRefClaim
import Derived.Test.YtdoedkgidcoibaaDoorRefTok
namespace Go.Proofs.YtdoedkgidcoibaaDoor
open Go.RowKit
set_option linter.unusedVariables false

set_option maxRecDepth 100000 in
set_option maxHeartbeats 1000000 in
theorem refopen_any (a : Option Addr) (len cap : Nat) (k : List Int) (s : ByteArray) (now : Int) (w : World) (hk : Bts w a len cap k) (hlen : len ≤ 300) (hs : s.size ≤ 300) :
    Calls Tryd.prog 17 #[.slice a len cap, .string s, .int .i64 now] w fun e w' => e = .returned (.tuple #[.agg #[.string (opn k s now).1, .int .i64 (opn k s now).2.1], .int .i64 (opn k s now).2.2]) ∧ Below w.heap.size w w' := by
  go_enter Tryd.func17, Tryd.ntmps17
  go_wp2_with fail
  have hc := rc_new w
  generalize w.alloc (.cells #[.string ⟨#[]⟩, .int .i64 0] 35) = w0 at hc ⊢
  replace hk := hk.below hc.low
  refine (refclaim_any s _ hs).mono ?_
  rintro e w1 ⟨rfl, hb1⟩
  replace hc := hc.step hb1
  replace hk := hk.below hb1
  clear hb1
  cases hr : readV s with
  | none =>
    obtain ⟨e1, e2, e3⟩ := no_claim hr
    have HO : Hid (opn k s now = (⟨#[]⟩, 0, 4)) := opn_none hr
    rw [← e1, ← e2, ← e3]
    clear e1 e2 e3 hr hk
    have hp := pass_new w1 ⟨#[]⟩ 0
    replace hc := hc.step hp.low
    clear hp
    have c0 := hc.at0
    have c1 := hc.at1
    have f0 := hc.fr0
    have f1 := hc.fr1
    go_wp2_with fail
    replace hc := hc.put2 (m := ⟨#[]⟩) (u := 0)
    clear c0 c1 f0 f1
    generalize ((w1.alloc (.cells #[.string ⟨#[]⟩, .int .i64 0] 35)).setCell ⟨w.heap.size, 0, none⟩ (.string ⟨#[]⟩)).setCell ⟨w.heap.size, 1, none⟩ (.int .i64 0) = w9 at hc ⊢
    exact bodyPost_ret (v := .tuple #[.agg #[.string ⟨#[]⟩, .int .i64 0], .int .i64 4]) (by simp [results, Tryd.results17, go_sem, hc.at0, hc.at1]) rfl ⟨ret_opn HO.out, hc.low⟩
  | some r =>
    obtain ⟨n, v, l⟩ := r
    obtain ⟨e1, e2, e3⟩ := yes_claim hr
    have HR : Hid (readV s = some (n, v, l)) := hr
    obtain ⟨hform, hsays⟩ := readV_some hr
    have h0 := hsays.lo
    have h1 := hsays.hi
    have hn : n.size ≤ 300 := Nat.le_trans hsays.name.2.1 (by decide)
    have hq := str_beq (tokB k n v) s
    have HQ : Hid (tokB k n v = s ↔ l = mkS k n v) := by
      show _ ↔ _
      have hs2 : Says n v (mkS k n v) := ⟨hsays.name, hsays.lo, hsays.hi, mkS_len _ _ _, mkS_byt _ _ _⟩
      constructor
      · intro h
        rw [hform] at h
        exact ((form_inj hs2 hsays h).2.2).symm
      · intro h
        rw [hform, h]; rfl
    rw [← e1, ← e2, ← e3]
    clear e1 e2 e3 hr hform hsays
    have hp := pass_new w1 n v
    replace hc := hc.step hp.low
    replace hk := hk.below hp.low
    have p0 := hp.at0
    have p1 := hp.at1
    go_wp2_with fail
    obtain ⟨B, hBB⟩ : ∃ B, B = w1.heap.size := ⟨_, rfl⟩
    rw [← hBB] at p0 p1 ⊢
    have hlt : B < (w1.alloc (.cells #[.string n, .int .i64 v] 35)).heap.size := by rw [hBB]; simp
    clear hp
    generalize w1.alloc (.cells #[.string n, .int .i64 v] 35) = w2 at hc hk p0 p1 hlt ⊢
    clear hBB
    refine (reftext_any a len cap k n v _ hk hlen hn (by omega) (by omega)).mono ?_
    rintro e w3 ⟨rfl, hb3⟩
    replace hc := hc.step hb3
    replace p0 := (hb3.cell (p := ⟨B, 0, none⟩) hlt).trans p0
    replace p1 := (hb3.cell (p := ⟨B, 1, none⟩) hlt).trans p1
    clear hb3 hlt hk
    by_cases ht : tokB k n v = s
    · have HL : Hid (l = mkS k n v) := HQ.out.1 ht
      rw [ht]
      have q1 : (s.toList == s.toList) = true := by simp
      clear hq HQ ht
      by_cases hnow : v ≤ now
      · have HO : Hid (opn k s now = (⟨#[]⟩, 0, 8)) := opn_over HR.out HL.out hnow
        clear HR HL
        have c0 := hc.at0
        have c1 := hc.at1
        have f0 := hc.fr0
        have f1 := hc.fr1
        go_wp2_with fail
        replace hc := hc.put2 (m := ⟨#[]⟩) (u := 0)
        clear c0 c1 f0 f1
        generalize ((w3).setCell ⟨w.heap.size, 0, none⟩ (.string ⟨#[]⟩)).setCell ⟨w.heap.size, 1, none⟩ (.int .i64 0) = w9 at hc ⊢
        exact bodyPost_ret (v := .tuple #[.agg #[.string ⟨#[]⟩, .int .i64 0], .int .i64 8]) (by simp [results, Tryd.results17, go_sem, hc.at0, hc.at1]) rfl ⟨ret_opn HO.out, hc.low⟩
      · have HO : Hid (opn k s now = (n, v, 0)) := opn_good HR.out HL.out hnow
        clear HR HL
        have c0 := hc.at0
        have c1 := hc.at1
        have f0 := hc.fr0
        have f1 := hc.fr1
        go_wp2_with fail
        replace hc := hc.put2 (m := n) (u := v)
        clear c0 c1 f0 f1
        generalize ((w3).setCell ⟨w.heap.size, 0, none⟩ (.string n)).setCell ⟨w.heap.size, 1, none⟩ (.int .i64 v) = w9 at hc ⊢
        exact bodyPost_ret (v := .tuple #[.agg #[.string n, .int .i64 v], .int .i64 0]) (by simp [results, Tryd.results17, go_sem, hc.at0, hc.at1]) rfl ⟨ret_opn HO.out, hc.low⟩
    · have HO : Hid (opn k s now = (⟨#[]⟩, 0, 7)) := opn_sign HR.out (fun h => ht (HQ.out.2 h))
      rw [decide_eq_false ht] at hq
      have hq2 : (!((tokB k n v).toList == s.toList)) = true := by rw [hq]; rfl
      have hq3 : ((tokB k n v).toList != s.toList) = true := hq2
      generalize tokB k n v = T at hq hq2 hq3 ht
      clear ht HR HQ
      have c0 := hc.at0
      have c1 := hc.at1
      have f0 := hc.fr0
      have f1 := hc.fr1
      go_wp2_with fail
      replace hc := hc.put2 (m := ⟨#[]⟩) (u := 0)
      clear c0 c1 f0 f1
      generalize ((w3).setCell ⟨w.heap.size, 0, none⟩ (.string ⟨#[]⟩)).setCell ⟨w.heap.size, 1, none⟩ (.int .i64 0) = w9 at hc ⊢
      exact bodyPost_ret (v := .tuple #[.agg #[.string ⟨#[]⟩, .int .i64 0], .int .i64 7]) (by simp [results, Tryd.results17, go_sem, hc.at0, hc.at1]) rfl ⟨ret_opn HO.out, hc.low⟩
end Go.Proofs.YtdoedkgidcoibaaDoor
