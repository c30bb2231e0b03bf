/- The document's own reader. The document's own reader: a byte, a piece. Decode, the document's. -/
import Derived.Test.YtjnjokbdoendkaaGreatSsd
import Derived.Test.YtjnjokbdoendkaaGreatSva
import Derived.Test.YtjnjokbdoendkaaGreatSma
import Derived.Test.YtjnjokbdoendkaaGreatSREnc
namespace Go.Proofs.YtjnjokbdoendkaaGreat
open Go.RowKit
set_option linter.unusedVariables false

/-- a reader in memory -/
def Rdr (w : World) (gr : Nat) (ao : Option Addr) (len cap p : Nat) (bad : Bool) : Prop := w.heap[gr]? = some (.cells #[.slice ao len cap, .int .i64 (p : Int), .bool bad] 134 (0, 0))
/-- what a call leaves -/
def RdW (w w' : World) (gr : Nat) (ao : Option Addr) (len cap p : Nat) (bad : Bool) : Prop := Kept (fun k => k = gr) w w' ∧ Rdr w' gr ao len cap p bad
section
variable {w w' : World} {gr : Nat} {ao : Option Addr} {len cap p : Nat} {bad : Bool}
set_option maxRecDepth 100000 in
theorem Rdr.c0 (h : Rdr w gr ao len cap p bad) : w.cell? ⟨gr, 0, none⟩ = some (.slice ao len cap) := by rw [cell_of_row w gr 0 _ _ (0, 0) h]; rfl
set_option maxRecDepth 100000 in
theorem Rdr.c1 (h : Rdr w gr ao len cap p bad) : w.cell? ⟨gr, 1, none⟩ = some (.int .i64 (p : Int)) := by rw [cell_of_row w gr 1 _ _ (0, 0) h]; rfl
set_option maxRecDepth 100000 in
theorem Rdr.c2 (h : Rdr w gr ao len cap p bad) : w.cell? ⟨gr, 2, none⟩ = some (.bool bad) := by rw [cell_of_row w gr 2 _ _ (0, 0) h]; rfl
set_option maxRecDepth 100000 in
theorem Rdr.fr (h : Rdr w gr ao len cap p bad) (j : Nat) : w.frozen? ⟨gr, j, none⟩ = false := frozen_of_row _ _ j _ _ h
set_option maxRecDepth 100000 in
theorem Rdr.lt (h : Rdr w gr ao len cap p bad) : gr < w.heap.size := (Array.getElem?_eq_some_iff.1 h).1
set_option maxRecDepth 100000 in
theorem Rdr.setBad (h : Rdr w gr ao len cap p bad) : Rdr (w.setCell ⟨gr, 2, none⟩ (.bool true)) gr ao len cap p true := by
  have h1 := heap_setCell_same w gr 2 _ _ (.bool true) h
  unfold Rdr
  rw [h1]; simp
set_option maxRecDepth 100000 in
theorem Rdr.setAt (h : Rdr w gr ao len cap p bad) (q : Nat) : Rdr (w.setCell ⟨gr, 1, none⟩ (.int .i64 (q : Int))) gr ao len cap q bad := by
  have h1 := heap_setCell_same w gr 1 _ _ (.int .i64 (q : Int)) h
  unfold Rdr
  rw [h1]; simp
set_option maxRecDepth 100000 in
theorem Rdr.below (h : Rdr w gr ao len cap p bad) (hb : Below w.heap.size w w') : Rdr w' gr ao len cap p bad := (hb.block gr h.lt).trans h
set_option maxRecDepth 100000 in
theorem Rdr.drewN (h : Rdr w gr ao len cap p bad) (n : Nat) : Rdr (w.drewN n) gr ao len cap p bad := h
end
/-- Number: is it bad, what it is, how far -/
def nuB (bad : Bool) (D : List Int) : Bool := bad || decide ((rd D 0 0).2.2 ≠ 0)
def nuV (bad : Bool) (D : List Int) : Int := if nuB bad D = true then 0 else (rd D 0 0).1
def nuA (bad : Bool) (D : List Int) : Nat := if nuB bad D = true then 0 else (rd D 0 0).2.1.toNat
set_option maxRecDepth 100000 in
theorem nu_bad (D : List Int) : nuB true D = true ∧ nuV true D = 0 ∧ nuA true D = 0 := by simp [nuV, nuA, nuB]
set_option maxRecDepth 100000 in
theorem nu_ok {D : List Int} {n m : Nat} (h : rd D 0 0 = ((n : Int), (m : Int), 0)) : nuB false D = false ∧ nuV false D = (n : Int) ∧ nuA false D = m := by simp [nuV, nuA, nuB, h]
set_option maxRecDepth 100000 in
theorem nu_err {D : List Int} {x y e : Int} (h : rd D 0 0 = (x, y, e)) (he : e ≠ 0) : nuB false D = true ∧ nuV false D = 0 ∧ nuA false D = 0 := by simp [nuV, nuA, nuB, h, he]
set_option maxRecDepth 100000 in
/-- what is behind a place -/
theorem Bts.from {w : World} {b off len cap : Nat} {l : List Int} (h : Bts w (some ⟨b, off, none⟩) len cap l) (p : Nat) (hp : p ≤ len) : (cap = p ∧ Bts w (some ⟨b, off, none⟩) 0 0 (l.drop p)) ∨ (¬ cap = p ∧ Bts w (some ⟨b, off + p, none⟩) (len - p) (cap - p) (l.drop p)) := by
  have hcl := h.le_cap
  have hcm := h.cap_le
  by_cases hc : cap = p
  · have e3 : l.drop p = [] := List.drop_eq_nil_of_le (by rw [h.len_eq]; omega)
    rw [e3]
    exact .inl ⟨hc, rfl, Byt.nil, Nat.le_refl _, Nat.zero_le _, fun _ => rfl, fun hp => absurd hp (Nat.lt_irrefl _)⟩
  · refine .inr ⟨hc, (h.part p (len - p) (cap - p) (by omega) (by omega) (by omega)).list ?_⟩
    rw [List.take_of_length_le (by rw [List.length_drop, h.len_eq]; omega)]
set_option maxRecDepth 100000 in
theorem Bts.zero (w : World) (x : Addr) (c : Nat) (hc : c ≤ maxLen) : Bts w (some x) 0 c [] := ⟨rfl, Byt.nil, Nat.zero_le _, hc, (fun hh => by cases hh), fun hp => absurd hp (Nat.lt_irrefl _)⟩
set_option maxRecDepth 100000 in
theorem Bts.none0 (w : World) : Bts w none 0 0 [] := ⟨rfl, Byt.nil, Nat.le_refl _, Nat.zero_le _, fun _ => rfl, fun hp => absurd hp (Nat.lt_irrefl _)⟩
set_option maxRecDepth 100000 in
set_option maxHeartbeats 4000000 in
set_option maxRecDepth 100000 in
theorem rnumber_any (gr : Nat) (ao : Option Addr) (len cap p : Nat) (bad : Bool) (l : List Int) (w : World) (hr : Rdr w gr ao len cap p bad) (hb : Bts w ao len cap l) (hp : p ≤ len) (hbig : len ≤ 1099511627776) :
    Calls Tryz.prog 70 #[.pointer (some ⟨gr, 0, none⟩)] w fun e w' => e = .returned (.int .u64 (nuV bad (l.drop p))) ∧ RdW w w' gr ao len cap (p + nuA bad (l.drop p)) (nuB bad (l.drop p)) := by
  have hcl := hb.le_cap
  have hcm := hb.cap_le
  have HCM : Bx (cap ≤ maxLen) := ⟨hcm⟩
  unfold maxLen at hcm
  have HR : Bx (Rdr w gr ao len cap p bad) := ⟨hr⟩
  obtain ⟨n, m, ec, hrd, hn, hm, hec⟩ := rd_facts (l := l.drop p) (fun x hx => hb.byt x (List.mem_of_mem_drop hx))
  rw [List.length_drop, hb.len_eq] at hm
  have hpI : (p : Int) ≤ (len : Int) := by omega
  have hpc : (p : Int) ≤ (cap : Int) := by omega
  have HRD : Bx (rd (l.drop p) 0 0 = ((n : Int), (m : Int), ec)) := ⟨hrd⟩
  have hll := hb.len_eq
  clear hrd hr
  by_cases hl0 : len = 0
  · subst hl0
    obtain rfl : p = 0 := by omega
    have HD : Bx (l.drop 0 = []) := ⟨List.drop_eq_nil_of_le (by omega)⟩
    cases ao with
    | none =>
      obtain rfl : cap = 0 := hb.nil rfl
      have HTL : Bx (Bts w none 0 0 (l.drop 0)) := ⟨by rw [HD.out]; exact Bts.none0 w⟩
      clear hb
      have hS0 : w.drew.cell? ⟨gr, 0, none⟩ = some (.slice none 0 0) ∧ w.drew.cell? ⟨gr, 1, none⟩ = some (.int .i64 0) ∧ ∃ q, w.drew = w.drewN q := ⟨HR.out.c0, HR.out.c1, 1, rfl⟩
      have HRV : Bx (∀ W, (W.cell? ⟨gr, 0, none⟩ = some (.slice none 0 0) ∧ W.cell? ⟨gr, 1, none⟩ = some (.int .i64 0) ∧ ∃ q, W = w.drewN q) → Calls Tryz.prog 104 #[.slice none 0 0] W fun e w' => e = .returned (rdVal ((n : Int), (m : Int), ec)) ∧ W = w') := ⟨fun W ⟨_, _, q, hq⟩ => by rw [hq, ← HRD.out]; exact refreadvar_any _ _ _ _ _ (HTL.out.drewN q)⟩
      go_enter Tryz.func70, Tryz.ntmps70
      go_wp2_with fail
      go_region_held3 (fun W => W.cell? ⟨gr, 0, none⟩ = some (.slice none 0 0) ∧ W.cell? ⟨gr, 1, none⟩ = some (.int .i64 0) ∧ ∃ q, W = w.drewN q) (first | (exact hS0) | (assumption)) (first
        | (go_at_call 104; refine (HRV.out _ (by assumption)).mono ?_; unfold rdVal; rintro e6 w6 ⟨rfl, rfl⟩))
      rename_i hHeld
      clear HRV hS0 hHeld
      have HRq : Bx (Rdr w.drew gr none 0 0 0 bad) := ⟨HR.out⟩
      have HKq : Bx (Kept (fun k => k = gr) w w.drew) := ⟨(Kept.refl _ _).drew⟩
      generalize w.drew = wq at HRq HKq ⊢
      have c2 := HRq.out.c2
      have c1 := HRq.out.c1
      have f2 := HRq.out.fr 2
      have f1 := HRq.out.fr 1
      clear HR
      cases bad with
      | true =>
        have HN : Bx (nuB true (l.drop 0) = true ∧ nuV true (l.drop 0) = 0 ∧ nuA true (l.drop 0) = 0) := ⟨nu_bad _⟩
        have HF : Bx (RdW w (wq.setCell ⟨gr, 2, none⟩ (.bool true)) gr none 0 0 0 true) := ⟨HKq.out.setCell (.inl rfl) 2 _, HRq.out.setBad⟩
        go_wp2_with fail
        go_ret
        exact ⟨ret_int HN.out.2.1.symm, by rw [HN.out.1, HN.out.2.2]; exact HF.out⟩
      | false =>
        by_cases he : ec = 0
        · subst he
          obtain ⟨hm1, hm2⟩ := hm rfl
          exfalso
          omega
        · have HN : Bx (nuB false (l.drop 0) = true ∧ nuV false (l.drop 0) = 0 ∧ nuA false (l.drop 0) = 0) := ⟨nu_err HRD.out he⟩
          have HF : Bx (RdW w (wq.setCell ⟨gr, 2, none⟩ (.bool true)) gr none 0 0 0 true) := ⟨HKq.out.setCell (.inl rfl) 2 _, HRq.out.setBad⟩
          have g0 : (ec != 0) = true := by simp [he]
          clear he hec hm
          go_wp2_with fail
          go_ret
          exact ⟨ret_int HN.out.2.1.symm, by rw [HN.out.1, HN.out.2.2]; exact HF.out⟩
    | some ad =>
      by_cases hc0 : cap = 0
      · subst hc0
        have HTL : Bx (Bts w (some ad) 0 0 (l.drop 0)) := ⟨by rw [HD.out]; exact Bts.zero w ad 0 (Nat.zero_le _)⟩
        clear hb
        have hS0 : w.drew.cell? ⟨gr, 0, none⟩ = some (.slice (some ad) 0 0) ∧ w.drew.cell? ⟨gr, 1, none⟩ = some (.int .i64 0) ∧ ∃ q, w.drew = w.drewN q := ⟨HR.out.c0, HR.out.c1, 1, rfl⟩
        have HRV : Bx (∀ W, (W.cell? ⟨gr, 0, none⟩ = some (.slice (some ad) 0 0) ∧ W.cell? ⟨gr, 1, none⟩ = some (.int .i64 0) ∧ ∃ q, W = w.drewN q) → Calls Tryz.prog 104 #[.slice (some ad) 0 0] W fun e w' => e = .returned (rdVal ((n : Int), (m : Int), ec)) ∧ W = w') := ⟨fun W ⟨_, _, q, hq⟩ => by rw [hq, ← HRD.out]; exact refreadvar_any _ _ _ _ _ (HTL.out.drewN q)⟩
        go_enter Tryz.func70, Tryz.ntmps70
        go_wp2_with fail
        go_region_held3 (fun W => W.cell? ⟨gr, 0, none⟩ = some (.slice (some ad) 0 0) ∧ W.cell? ⟨gr, 1, none⟩ = some (.int .i64 0) ∧ ∃ q, W = w.drewN q) (first | (exact hS0) | (assumption)) (first
          | (go_at_call 104; refine (HRV.out _ (by assumption)).mono ?_; unfold rdVal; rintro e6 w6 ⟨rfl, rfl⟩))
        rename_i hHeld
        clear HRV hS0 hHeld
        have HRq : Bx (Rdr w.drew gr (some ad) 0 0 0 bad) := ⟨HR.out⟩
        have HKq : Bx (Kept (fun k => k = gr) w w.drew) := ⟨(Kept.refl _ _).drew⟩
        generalize w.drew = wq at HRq HKq ⊢
        have c2 := HRq.out.c2
        have c1 := HRq.out.c1
        have f2 := HRq.out.fr 2
        have f1 := HRq.out.fr 1
        clear HR
        cases bad with
        | true =>
          have HN : Bx (nuB true (l.drop 0) = true ∧ nuV true (l.drop 0) = 0 ∧ nuA true (l.drop 0) = 0) := ⟨nu_bad _⟩
          have HF : Bx (RdW w (wq.setCell ⟨gr, 2, none⟩ (.bool true)) gr (some ad) 0 0 0 true) := ⟨HKq.out.setCell (.inl rfl) 2 _, HRq.out.setBad⟩
          go_wp2_with fail
          go_ret
          exact ⟨ret_int HN.out.2.1.symm, by rw [HN.out.1, HN.out.2.2]; exact HF.out⟩
        | false =>
          by_cases he : ec = 0
          · subst he
            obtain ⟨hm1, hm2⟩ := hm rfl
            exfalso
            omega
          · have HN : Bx (nuB false (l.drop 0) = true ∧ nuV false (l.drop 0) = 0 ∧ nuA false (l.drop 0) = 0) := ⟨nu_err HRD.out he⟩
            have HF : Bx (RdW w (wq.setCell ⟨gr, 2, none⟩ (.bool true)) gr (some ad) 0 0 0 true) := ⟨HKq.out.setCell (.inl rfl) 2 _, HRq.out.setBad⟩
            have g0 : (ec != 0) = true := by simp [he]
            clear he hec hm
            go_wp2_with fail
            go_ret
            exact ⟨ret_int HN.out.2.1.symm, by rw [HN.out.1, HN.out.2.2]; exact HF.out⟩
      · have HTL : Bx (Bts w (some (ad.add 0)) 0 cap (l.drop 0)) := ⟨by rw [HD.out]; exact Bts.zero w _ cap HCM.out⟩
        clear hb
        have hS0 : w.drew.cell? ⟨gr, 0, none⟩ = some (.slice (some ad) 0 cap) ∧ w.drew.cell? ⟨gr, 1, none⟩ = some (.int .i64 0) ∧ ∃ q, w.drew = w.drewN q := ⟨HR.out.c0, HR.out.c1, 1, rfl⟩
        have HRV : Bx (∀ W, (W.cell? ⟨gr, 0, none⟩ = some (.slice (some ad) 0 cap) ∧ W.cell? ⟨gr, 1, none⟩ = some (.int .i64 0) ∧ ∃ q, W = w.drewN q) → Calls Tryz.prog 104 #[.slice (some (ad.add 0)) 0 cap] W fun e w' => e = .returned (rdVal ((n : Int), (m : Int), ec)) ∧ W = w') := ⟨fun W ⟨_, _, q, hq⟩ => by rw [hq, ← HRD.out]; exact refreadvar_any _ _ _ _ _ (HTL.out.drewN q)⟩
        go_enter Tryz.func70, Tryz.ntmps70
        go_wp2_with fail
        go_region_held3 (fun W => W.cell? ⟨gr, 0, none⟩ = some (.slice (some ad) 0 cap) ∧ W.cell? ⟨gr, 1, none⟩ = some (.int .i64 0) ∧ ∃ q, W = w.drewN q) (first | (exact hS0) | (assumption)) (first
          | (go_at_call 104; refine (HRV.out _ (by assumption)).mono ?_; unfold rdVal; rintro e6 w6 ⟨rfl, rfl⟩))
        rename_i hHeld
        clear HRV hS0 hHeld
        have HRq : Bx (Rdr w.drew gr (some ad) 0 cap 0 bad) := ⟨HR.out⟩
        have HKq : Bx (Kept (fun k => k = gr) w w.drew) := ⟨(Kept.refl _ _).drew⟩
        generalize w.drew = wq at HRq HKq ⊢
        have c2 := HRq.out.c2
        have c1 := HRq.out.c1
        have f2 := HRq.out.fr 2
        have f1 := HRq.out.fr 1
        clear HR
        cases bad with
        | true =>
          have HN : Bx (nuB true (l.drop 0) = true ∧ nuV true (l.drop 0) = 0 ∧ nuA true (l.drop 0) = 0) := ⟨nu_bad _⟩
          have HF : Bx (RdW w (wq.setCell ⟨gr, 2, none⟩ (.bool true)) gr (some ad) 0 cap 0 true) := ⟨HKq.out.setCell (.inl rfl) 2 _, HRq.out.setBad⟩
          go_wp2_with fail
          go_ret
          exact ⟨ret_int HN.out.2.1.symm, by rw [HN.out.1, HN.out.2.2]; exact HF.out⟩
        | false =>
          by_cases he : ec = 0
          · subst he
            obtain ⟨hm1, hm2⟩ := hm rfl
            exfalso
            omega
          · have HN : Bx (nuB false (l.drop 0) = true ∧ nuV false (l.drop 0) = 0 ∧ nuA false (l.drop 0) = 0) := ⟨nu_err HRD.out he⟩
            have HF : Bx (RdW w (wq.setCell ⟨gr, 2, none⟩ (.bool true)) gr (some ad) 0 cap 0 true) := ⟨HKq.out.setCell (.inl rfl) 2 _, HRq.out.setBad⟩
            have g0 : (ec != 0) = true := by simp [he]
            clear he hec hm
            go_wp2_with fail
            go_ret
            exact ⟨ret_int HN.out.2.1.symm, by rw [HN.out.1, HN.out.2.2]; exact HF.out⟩
  · obtain ⟨b, off, rfl, hbl, _⟩ := hb.spot (by omega)
    rcases hb.from p hp with ⟨hc, ht⟩ | ⟨hc, ht⟩
    · have HTL : Bx (Bts w (some ⟨b, off, none⟩) 0 0 (l.drop p)) := ⟨ht⟩
      obtain rfl : len = p := by omega
      subst hc
      clear hb ht
      have hS0 : w.drew.cell? ⟨gr, 0, none⟩ = some (.slice (some ⟨b, off, none⟩) cap cap) ∧ w.drew.cell? ⟨gr, 1, none⟩ = some (.int .i64 (cap : Int)) ∧ ∃ q, w.drew = w.drewN q := ⟨HR.out.c0, HR.out.c1, 1, rfl⟩
      have HRV : Bx (∀ W, (W.cell? ⟨gr, 0, none⟩ = some (.slice (some ⟨b, off, none⟩) cap cap) ∧ W.cell? ⟨gr, 1, none⟩ = some (.int .i64 (cap : Int)) ∧ ∃ q, W = w.drewN q) → Calls Tryz.prog 104 #[.slice (some ⟨b, off, none⟩) 0 0] W fun e w' => e = .returned (rdVal ((n : Int), (m : Int), ec)) ∧ W = w') := ⟨fun W ⟨_, _, q, hq⟩ => by rw [hq, ← HRD.out]; exact refreadvar_any _ _ _ _ _ (HTL.out.drewN q)⟩
      go_enter Tryz.func70, Tryz.ntmps70
      go_wp2_with fail
      go_region_held3 (fun W => W.cell? ⟨gr, 0, none⟩ = some (.slice (some ⟨b, off, none⟩) cap cap) ∧ W.cell? ⟨gr, 1, none⟩ = some (.int .i64 (cap : Int)) ∧ ∃ q, W = w.drewN q) (first | (exact hS0) | (assumption)) (first
        | (go_at_call 104; refine (HRV.out _ (by assumption)).mono ?_; unfold rdVal; rintro e6 w6 ⟨rfl, rfl⟩))
      rename_i hHeld
      clear HRV hS0 hHeld
      have HRq : Bx (Rdr w.drew gr (some ⟨b, off, none⟩) cap cap cap bad) := ⟨HR.out⟩
      have HKq : Bx (Kept (fun k => k = gr) w w.drew) := ⟨(Kept.refl _ _).drew⟩
      generalize w.drew = wq at HRq HKq ⊢
      have c2 := HRq.out.c2
      have c1 := HRq.out.c1
      have f2 := HRq.out.fr 2
      have f1 := HRq.out.fr 1
      clear HR
      cases bad with
      | true =>
        have HN : Bx (nuB true (l.drop cap) = true ∧ nuV true (l.drop cap) = 0 ∧ nuA true (l.drop cap) = 0) := ⟨nu_bad _⟩
        have HF : Bx (RdW w (wq.setCell ⟨gr, 2, none⟩ (.bool true)) gr (some ⟨b, off, none⟩) cap cap cap true) := ⟨HKq.out.setCell (.inl rfl) 2 _, HRq.out.setBad⟩
        go_wp2_with fail
        go_ret
        exact ⟨ret_int HN.out.2.1.symm, by rw [HN.out.1, HN.out.2.2]; exact HF.out⟩
      | false =>
        by_cases he : ec = 0
        · subst he
          obtain ⟨hm1, hm2⟩ := hm rfl
          exfalso
          omega
        · have HN : Bx (nuB false (l.drop cap) = true ∧ nuV false (l.drop cap) = 0 ∧ nuA false (l.drop cap) = 0) := ⟨nu_err HRD.out he⟩
          have HF : Bx (RdW w (wq.setCell ⟨gr, 2, none⟩ (.bool true)) gr (some ⟨b, off, none⟩) cap cap cap true) := ⟨HKq.out.setCell (.inl rfl) 2 _, HRq.out.setBad⟩
          have g0 : (ec != 0) = true := by simp [he]
          clear he hec hm
          go_wp2_with fail
          go_ret
          exact ⟨ret_int HN.out.2.1.symm, by rw [HN.out.1, HN.out.2.2]; exact HF.out⟩
    · have HTL : Bx (Bts w (some ⟨b, off + p, none⟩) (len - p) (cap - p) (l.drop p)) := ⟨ht⟩
      clear hb ht
      have hS0 : w.drew.cell? ⟨gr, 0, none⟩ = some (.slice (some ⟨b, off, none⟩) len cap) ∧ w.drew.cell? ⟨gr, 1, none⟩ = some (.int .i64 (p : Int)) ∧ ∃ q, w.drew = w.drewN q := ⟨HR.out.c0, HR.out.c1, 1, rfl⟩
      have HRV : Bx (∀ W, (W.cell? ⟨gr, 0, none⟩ = some (.slice (some ⟨b, off, none⟩) len cap) ∧ W.cell? ⟨gr, 1, none⟩ = some (.int .i64 (p : Int)) ∧ ∃ q, W = w.drewN q) → Calls Tryz.prog 104 #[.slice (some ⟨b, off + p, none⟩) (len - p) (cap - p)] W fun e w' => e = .returned (rdVal ((n : Int), (m : Int), ec)) ∧ W = w') := ⟨fun W ⟨_, _, q, hq⟩ => by rw [hq, ← HRD.out]; exact refreadvar_any _ _ _ _ _ (HTL.out.drewN q)⟩
      go_enter Tryz.func70, Tryz.ntmps70
      go_wp2_with fail
      go_region_held3 (fun W => W.cell? ⟨gr, 0, none⟩ = some (.slice (some ⟨b, off, none⟩) len cap) ∧ W.cell? ⟨gr, 1, none⟩ = some (.int .i64 (p : Int)) ∧ ∃ q, W = w.drewN q) (first | (exact hS0) | (assumption)) (first
        | (go_at_call 104; refine (HRV.out _ (by assumption)).mono ?_; unfold rdVal; rintro e6 w6 ⟨rfl, rfl⟩))
      rename_i hHeld
      clear HRV hS0 hHeld
      have HRq : Bx (Rdr w.drew gr (some ⟨b, off, none⟩) len cap p bad) := ⟨HR.out⟩
      have HKq : Bx (Kept (fun k => k = gr) w w.drew) := ⟨(Kept.refl _ _).drew⟩
      generalize w.drew = wq at HRq HKq ⊢
      have c2 := HRq.out.c2
      have c1 := HRq.out.c1
      have f2 := HRq.out.fr 2
      have f1 := HRq.out.fr 1
      clear HR
      cases bad with
      | true =>
        have HN : Bx (nuB true (l.drop p) = true ∧ nuV true (l.drop p) = 0 ∧ nuA true (l.drop p) = 0) := ⟨nu_bad _⟩
        have HF : Bx (RdW w (wq.setCell ⟨gr, 2, none⟩ (.bool true)) gr (some ⟨b, off, none⟩) len cap p true) := ⟨HKq.out.setCell (.inl rfl) 2 _, HRq.out.setBad⟩
        go_wp2_with fail
        go_ret
        exact ⟨ret_int HN.out.2.1.symm, by rw [HN.out.1, HN.out.2.2]; exact HF.out⟩
      | false =>
        by_cases he : ec = 0
        · subst he
          obtain ⟨hm1, hm2⟩ := hm rfl
          have HN : Bx (nuB false (l.drop p) = false ∧ nuV false (l.drop p) = (n : Int) ∧ nuA false (l.drop p) = m) := ⟨nu_ok HRD.out⟩
          have HF : Bx (RdW w (wq.setCell ⟨gr, 1, none⟩ (.int .i64 ((p + m : Nat) : Int))) gr (some ⟨b, off, none⟩) len cap (p + m) false) := ⟨HKq.out.setCell (.inl rfl) 1 _, HRq.out.setAt _⟩
          have hsum : ((p + m : Nat) : Int) = (p : Int) + (m : Int) := by omega
          rw [hsum] at HF
          have hw : IntKind.i64.wrap ((p : Int) + (m : Int)) = (p : Int) + (m : Int) := by rw [IntWalk.i64_in _ (by omega)]
          clear hsum
          go_wp2_with fail
          go_ret
          exact ⟨ret_int HN.out.2.1.symm, by rw [HN.out.1, HN.out.2.2]; exact HF.out⟩
        · have HN : Bx (nuB false (l.drop p) = true ∧ nuV false (l.drop p) = 0 ∧ nuA false (l.drop p) = 0) := ⟨nu_err HRD.out he⟩
          have HF : Bx (RdW w (wq.setCell ⟨gr, 2, none⟩ (.bool true)) gr (some ⟨b, off, none⟩) len cap p true) := ⟨HKq.out.setCell (.inl rfl) 2 _, HRq.out.setBad⟩
          have g0 : (ec != 0) = true := by simp [he]
          clear he hec hm
          go_wp2_with fail
          go_ret
          exact ⟨ret_int HN.out.2.1.symm, by rw [HN.out.1, HN.out.2.2]; exact HF.out⟩
end Go.Proofs.YtjnjokbdoendkaaGreat
namespace Go.Proofs.YtjnjokbdoendkaaGreat
open Go.RowKit
set_option linter.unusedVariables false

set_option maxRecDepth 100000 in
theorem RdW.bts {w w' : World} {gr : Nat} {ao : Option Addr} {len cap p : Nat} {bad : Bool} {a : Option Addr} {n c : Nat} {l : List Int} (h : RdW w w' gr ao len cap p bad) (hb : Bts w a n c l) (hne : 0 < n → ∀ q, a = some q → q.block ≠ gr) : Bts w' a n c l :=
  hb.keep (fun hp q e => h.1.block _ (hb.lt hp e) (hne hp q e)) h.1.size
set_option maxRecDepth 100000 in
set_option maxHeartbeats 2000000 in
theorem rbyte_any (gr : Nat) (ao : Option Addr) (len cap p : Nat) (bad : Bool) (l : List Int) (w : World) (hr : Rdr w gr ao len cap p bad) (hb : Bts w ao len cap l) (hne : 0 < len → ∀ q, ao = some q → q.block ≠ gr) (hp : p ≤ len) (hbig : len ≤ 1099511627776) :
    Calls Tryz.prog 71 #[.pointer (some ⟨gr, 0, none⟩)] w fun e w' => ((bad = true ∨ len ≤ p) ∧ e = .returned (.int .u8 0) ∧ RdW w w' gr ao len cap p true) ∨ (bad = false ∧ p < len ∧ e = .returned (.int .u8 (l.getD p 0)) ∧ RdW w w' gr ao len cap (p + 1) false) := by
  have HR : Bx (Rdr w gr ao len cap p bad) := ⟨hr⟩
  have HB : Bx (Bts w ao len cap l) := ⟨hb⟩
  have HNE : Bx (0 < len → ∀ q, ao = some q → q.block ≠ gr) := ⟨hne⟩
  have c0 := hr.c0
  have c1 := hr.c1
  have c2 := hr.c2
  have hcl := hb.le_cap
  have hcm := hb.cap_le
  unfold maxLen at hcm
  have HW0 : Bx (∀ q, RdW w ((w.drewN q).setCell ⟨gr, 2, none⟩ (.bool true)) gr ao len cap p true) := ⟨fun q => ⟨((Kept.refl (fun k => k = gr) w).drewN q).setCell (.inl rfl) 2 _, (HR.out.drewN q).setBad⟩⟩
  clear hr hb hne
  cases bad with
  | true =>
    have f2 := HR.out.fr 2
    go_enter Tryz.func71, Tryz.ntmps71
    go_wp2_with fail
    go_quiet (fail)
    have hf := HW0.out nq
    have f3 : (w.drewN nq).frozen? ⟨gr, 2, none⟩ = false := f2
    have d2 : (w.drewN nq).cell? ⟨gr, 2, none⟩ = some (.bool true) := c2
    go_wp2_with fail
    go_ret
    exact .inl ⟨.inl (by trivial), rfl, hf⟩
  | false =>
    by_cases hge : len ≤ p
    · have g1 : decide ((p : Int) ≥ (len : Int)) = true := by simp; omega
      have g2 : decide (len ≤ p) = true := by simp; omega
      have f2 := HR.out.fr 2
      go_enter Tryz.func71, Tryz.ntmps71
      go_wp2_with fail
      go_quiet (fail)
      have hf := HW0.out nq
      have f3 : (w.drewN nq).frozen? ⟨gr, 2, none⟩ = false := f2
      have d2 : (w.drewN nq).cell? ⟨gr, 2, none⟩ = some (.bool false) := c2
      go_wp2_with fail
      go_ret
      exact .inl ⟨.inr hge, rfl, hf⟩
    · have g1 : decide ((p : Int) ≥ (len : Int)) = false := by simp; omega
      have g2 : decide (len ≤ p) = false := by simp; omega
      obtain ⟨b, off, rfl, hbl, _⟩ := HB.out.spot (by omega)
      have hpI : (p : Int) < (len : Int) := by omega
      have hw1 : IntKind.i64.wrap ((p : Int) + 1) = (p : Int) + 1 := by rw [IntWalk.i64_in _ (by omega)]
      have hw2 : IntKind.i64.wrap (p : Int) = (p : Int) := by rw [IntWalk.i64_in _ (by omega)]
      have HW1 : Bx (∀ q, RdW w ((w.drewN q).setCell ⟨gr, 1, none⟩ (.int .i64 ((p : Int) + 1))) gr (some ⟨b, off, none⟩) len cap (p + 1) false) := ⟨fun q => ⟨((Kept.refl (fun k => k = gr) w).drewN q).setCell (.inl rfl) 1 _, (HR.out.drewN q).setAt (p + 1)⟩⟩
      have f1 := HR.out.fr 1
      go_enter Tryz.func71, Tryz.ntmps71
      go_wp2_with fail
      go_quiet (fail)
      have HF := Bx.mk (HW1.out nq)
      have f3 : (w.drewN nq).frozen? ⟨gr, 1, none⟩ = false := f1
      have d1 : (w.drewN nq).cell? ⟨gr, 1, none⟩ = some (.int .i64 (p : Int)) := c1
      clear g1 g2
      go_wp2_with fail
      generalize (w.drewN nq).setCell ⟨gr, 1, none⟩ (.int .i64 ((p : Int) + 1)) = w3 at HF ⊢
      have k0 := HF.out.2.c0
      have k1 : w3.cell? ⟨gr, 1, none⟩ = some (.int .i64 ((p : Int) + 1)) := HF.out.2.c1
      obtain ⟨b2, off2, e2, _, hc2⟩ := (HF.out.bts HB.out HNE.out).spot (by omega)
      cases e2
      have k2 := hc2 p (by omega)
      clear hc2 c0 c1 c2 d1
      go_quiet (fail)
      go_wp2_with fail
      go_ret
      exact .inr ⟨by trivial, by omega, rfl, HF.out.1.drewN _, HF.out.2.drewN _⟩
/-- what Piece answers -/
def PCP (l : List Int) (gr : Nat) (ao : Option Addr) (len cap p : Nat) (bad : Bool) (w : World) (e : Ending) (w' : World) : Prop :=
  ((bad = true ∨ pc (l.drop p) = none) ∧ e = .returned (.slice none 0 0) ∧ ∃ p2, p2 ≤ len ∧ RdW w w' gr ao len cap p2 true) ∨
  (bad = false ∧ ∃ x y v p2, pc (l.drop p) = some (x, y) ∧ e = .returned v ∧ w'.ownsRow w.heap.size 5 1 v x.length (bv x) ∧ p2 ≤ len ∧ y = l.drop p2 ∧ RdW w w' gr ao len cap p2 false)
set_option maxRecDepth 100000 in
set_option maxHeartbeats 4000000 in
set_option maxRecDepth 100000 in
theorem rpiece_any (gr : Nat) (ao : Option Addr) (len cap p : Nat) (bad : Bool) (l : List Int) (w : World) (hr : Rdr w gr ao len cap p bad) (hb : Bts w ao len cap l) (hne : 0 < len → ∀ q, ao = some q → q.block ≠ gr) (hp : p ≤ len) (hbig : len ≤ 1099511627776) :
    Calls Tryz.prog 72 #[.pointer (some ⟨gr, 0, none⟩)] w fun e w' => PCP l gr ao len cap p bad w e w' := by
  have HR : Bx (Rdr w gr ao len cap p bad) := ⟨hr⟩
  have HB : Bx (Bts w ao len cap l) := ⟨hb⟩
  have HNE : Bx (0 < len → ∀ q, ao = some q → q.block ≠ gr) := ⟨hne⟩
  have HLL : Bx (l.length = len) := ⟨hb.len_eq⟩
  have hcl := hb.le_cap
  have hcm := hb.cap_le
  unfold maxLen at hcm
  obtain ⟨n, m, ec, hrd, hn, hm, hec⟩ := rd_facts (l := l.drop p) (fun x hx => hb.byt x (List.mem_of_mem_drop hx))
  rw [List.length_drop, hb.len_eq] at hm
  have HPC : Bx (pc (l.drop p) = if ec = 0 ∧ (n : Int) ≤ (len - p : Nat) - (m : Int) then some (((l.drop p).drop m).take n, ((l.drop p).drop m).drop n) else none) := ⟨by unfold pc; rw [hrd, List.length_drop, HLL.out]; simp⟩
  have HRD : Bx (rd (l.drop p) 0 0 = ((n : Int), (m : Int), ec)) := ⟨hrd⟩
  clear hr hb hne hrd
  go_enter Tryz.func72, Tryz.ntmps72
  go_wp2_with fail
  refine (rnumber_any gr ao len cap p bad l _ HR.out HB.out hp hbig).mono ?_
  rintro e w1 ⟨rfl, hW1⟩
  have HW1 := Bx.mk hW1
  by_cases hbd : bad = true ∨ ec ≠ 0
  · have HN : Bx (nuB bad (l.drop p) = true ∧ nuV bad (l.drop p) = 0 ∧ nuA bad (l.drop p) = 0) := ⟨by
      cases bad with
      | true => exact nu_bad _
      | false => exact nu_err HRD.out (by simpa using hbd)⟩
    have HNO : Bx (bad = true ∨ pc (l.drop p) = none) := ⟨by
      rcases hbd with h | h
      · exact .inl h
      · exact .inr (by rw [HPC.out, if_neg (fun hh => h hh.1)])⟩
    rw [HN.out.1, HN.out.2.2] at HW1
    rw [HN.out.2.1]
    have c2 := HW1.out.2.c2
    have f2 := HW1.out.2.fr 2
    have HF : Bx (∀ q, RdW w ((w1.drewN q).setCell ⟨gr, 2, none⟩ (.bool true)) gr ao len cap (p + 0) true) := ⟨fun q => ⟨(HW1.out.1.drewN q).setCell (.inl rfl) 2 _, (HW1.out.2.drewN q).setBad⟩⟩
    clear hbd hm hec hW1
    go_wp2_with fail
    go_quiet (fail)
    have hf := Bx.mk (HF.out nq)
    have f3 : (w1.drewN nq).frozen? ⟨gr, 2, none⟩ = false := f2
    have d2 : (w1.drewN nq).cell? ⟨gr, 2, none⟩ = some (.bool true) := c2
    clear c2 f2
    go_wp2_with fail
    go_ret
    exact .inl ⟨HNO.out, rfl, p, hp, hf.out⟩
  · obtain ⟨rfl, rfl⟩ : bad = false ∧ ec = 0 := by
      cases bad with
      | true => exact absurd (.inl rfl) hbd
      | false => exact ⟨rfl, Decidable.byContradiction fun h => hbd (.inr h)⟩
    obtain ⟨hm1, hm2⟩ := hm rfl
    have HN : Bx (nuB false (l.drop p) = false ∧ nuV false (l.drop p) = (n : Int) ∧ nuA false (l.drop p) = m) := ⟨nu_ok HRD.out⟩
    rw [HN.out.1, HN.out.2.2] at HW1
    rw [HN.out.2.1]
    have c0 := HW1.out.2.c0
    have c1 : w1.cell? ⟨gr, 1, none⟩ = some (.int .i64 ((p : Int) + m)) := by have h := HW1.out.2.c1; rw [Int.natCast_add] at h; exact h
    have c2 := HW1.out.2.c2
    have f2 := HW1.out.2.fr 2
    have f1 := HW1.out.2.fr 1
    have hwd : IntKind.i64.wrap ((len : Int) - ((p : Int) + m)) = (len : Int) - ((p : Int) + m) := by rw [IntWalk.i64_in _ (by omega)]
    have hwc : IntKind.u64.wrap ((len : Int) - ((p : Int) + m)) = (len : Int) - ((p : Int) + m) := by rw [IntKind.wrap_u64]; omega
    clear hbd hm hec hW1
    by_cases hgt : len < p + m + n
    · have HNO : Bx (pc (l.drop p) = none) := ⟨by rw [HPC.out, if_neg (by omega)]⟩
      have g1 : decide ((n : Int) > (len : Int) - ((p : Int) + m)) = true := by simp; omega
      have HF : Bx (∀ q, RdW w ((w1.drewN q).setCell ⟨gr, 2, none⟩ (.bool true)) gr ao len cap (p + m) true) := ⟨fun q => ⟨(HW1.out.1.drewN q).setCell (.inl rfl) 2 _, (HW1.out.2.drewN q).setBad⟩⟩
      go_wp2_with fail
      go_quiet (fail)
      have hf := Bx.mk (HF.out nq)
      have f3 : (w1.drewN nq).frozen? ⟨gr, 2, none⟩ = false := f2
      have d2 : (w1.drewN nq).cell? ⟨gr, 2, none⟩ = some (.bool false) := c2
      clear c2 f2 c0 c1 f1
      go_wp2_with fail
      go_ret
      exact .inl ⟨.inr HNO.out, rfl, p + m, by omega, hf.out⟩
    · have HPC2 : Bx (pc (l.drop p) = some ((l.drop (p + m)).take n, l.drop (p + m + n))) := ⟨by rw [HPC.out, if_pos ⟨rfl, by omega⟩, List.drop_drop, List.drop_drop]⟩
      have g1 : decide ((n : Int) > (len : Int) - ((p : Int) + m)) = false := by simp; omega
      obtain ⟨b, off, rfl, hbl, _⟩ := HB.out.spot (by omega)
      have hn40 : n ≤ 1099511627776 := by omega
      have hw3 : IntKind.i64.wrap (n : Int) = (n : Int) := by rw [IntWalk.i64_in _ (by omega)]
      have hw4 : IntKind.i64.wrap ((p : Int) + m + n) = (p : Int) + m + n := by rw [IntWalk.i64_in _ (by omega)]
      have hw5 : IntKind.i64.wrap ((p : Int) + m) = (p : Int) + m := by rw [IntWalk.i64_in _ (by omega)]
      have HF1 : Bx (∀ q, RdW w ((w1.drewN q).setCell ⟨gr, 1, none⟩ (.int .i64 ((p : Int) + m + n))) gr (some ⟨b, off, none⟩) len cap (p + m + n) false) := ⟨fun q => ⟨(HW1.out.1.drewN q).setCell (.inl rfl) 1 _, by have h := (HW1.out.2.drewN q).setAt (p + m + n); rw [Int.natCast_add, Int.natCast_add] at h; exact h⟩⟩
      have HSZ1 : Bx (w.heap.size ≤ w1.heap.size) := ⟨HW1.out.1.size⟩
      go_wp2_with fail
      go_quiet (fail)
      have HF := Bx.mk (HF1.out nq)
      have f3 : (w1.drewN nq).frozen? ⟨gr, 1, none⟩ = false := f1
      have d1 : (w1.drewN nq).cell? ⟨gr, 1, none⟩ = some (.int .i64 ((p : Int) + m)) := c1
      clear g1 c0 c1 c2 f1 f2
      go_wp2_with fail
      generalize (w1.drewN nq).setCell ⟨gr, 1, none⟩ (.int .i64 ((p : Int) + m + n)) = w3 at HF ⊢
      have k0 := HF.out.2.c0
      have k1 : w3.cell? ⟨gr, 1, none⟩ = some (.int .i64 ((p : Int) + m + n)) := by have h := HF.out.2.c1; rw [Int.natCast_add, Int.natCast_add] at h; exact h
      have HB3 := Bx.mk (HF.out.bts HB.out HNE.out)
      have HGL : Bx (gr < w3.heap.size) := ⟨HF.out.2.lt⟩
      have HSZ : Bx (w.heap.size ≤ w3.heap.size) := ⟨HF.out.1.size⟩
      have j1 : (p : Int) + m ≤ (p : Int) + m + n := by omega
      have j2 : (p : Int) + m + n ≤ (cap : Int) := by omega
      have j0 : (0 : Int) ≤ (p : Int) + m := by omega
      have j3 : (0 : Int) ≤ (p : Int) + m + n := by omega
      clear d1 f3 hwd hwc
      have ht1 : ((p : Int) + m).toNat = p + m := by omega
      have ht2 : ((p : Int) + m + n).toNat = p + m + n := by omega
      by_cases hcp : cap = p + m
      · have hif : (if cap = p + m then (some ⟨b, off, none⟩ : Option Addr) else some ⟨b, off + (p + m), none⟩) = some ⟨b, off, none⟩ := if_pos hcp
        have hcz : cap - (p + m) = 0 := by omega
        have HSL : Bx (Bts w3 (some ⟨b, off, none⟩) n 0 ((l.drop (p + m)).take n)) := ⟨by
          rw [show n = 0 from by omega]
          exact Bts.zero w3 _ 0 (Nat.zero_le _)⟩
        clear hcp
        have hS0 : w3.drew.cell? ⟨gr, 0, none⟩ = some (.slice (some ⟨b, off, none⟩) len cap) ∧ w3.drew.cell? ⟨gr, 1, none⟩ = some (.int .i64 ((p : Int) + m + n)) ∧ Below w3.heap.size w3 w3.drew := ⟨k0, k1, (Below.refl _ _).drew⟩
        have HCP : Bx (∀ W, (W.cell? ⟨gr, 0, none⟩ = some (.slice (some ⟨b, off, none⟩) len cap) ∧ W.cell? ⟨gr, 1, none⟩ = some (.int .i64 ((p : Int) + m + n)) ∧ Below w3.heap.size w3 W) → Calls Tryz.prog 40 #[.slice (some ⟨b, off, none⟩) n 0] W fun e w' => ∃ v, e = .returned v ∧ w'.ownsRow w3.heap.size 5 1 v n (bv ((l.drop (p + m)).take n)) ∧ (w'.cell? ⟨gr, 0, none⟩ = some (.slice (some ⟨b, off, none⟩) len cap) ∧ w'.cell? ⟨gr, 1, none⟩ = some (.int .i64 ((p : Int) + m + n)) ∧ Below w3.heap.size w3 w') ∧ (∃ a1 n1 c1, v = .slice a1 n1 c1)) := ⟨fun W ⟨h0, h1, hW⟩ => (copy_any _ _ _ _ W (HSL.out.below hW) (by omega)).mono fun e w' ⟨v, e1, ho, hb⟩ => ⟨v, e1, owns_base ho hW.size, ⟨(hb.cell (p := ⟨gr, 0, none⟩) (Nat.lt_of_lt_of_le HGL.out hW.size)).trans h0, (hb.cell (p := ⟨gr, 1, none⟩) (Nat.lt_of_lt_of_le HGL.out hW.size)).trans h1, bstep hW hb⟩, own_form ho⟩⟩
        go_region_held3 (fun W => W.cell? ⟨gr, 0, none⟩ = some (.slice (some ⟨b, off, none⟩) len cap) ∧ W.cell? ⟨gr, 1, none⟩ = some (.int .i64 ((p : Int) + m + n)) ∧ Below w3.heap.size w3 W) (first | (exact hS0) | (exact hb6) | (assumption)) (first
          | (go_at_call 40; refine (HCP.out _ (by assumption)).mono ?_; rintro e6 w6 ⟨v6, rfl, hown6, hb6, a6, n6, c6, rfl⟩))
        rename_i hHeld
        have HO6 := Bx.mk hown6
        have HB6 := Bx.mk hHeld.2.2
        clear hown6 hHeld hb6 HCP hS0 k0 k1
        go_wp2_with fail
        go_ret
        exact .inr ⟨by trivial, (l.drop (p + m)).take n, l.drop (p + m + n), _, p + m + n, HPC2.out, rfl, by rw [List.length_take, List.length_drop, HLL.out, show min n (len - (p + m)) = n from by omega]; exact owns_base HO6.out HSZ.out, by omega, rfl, HF.out.1.below HB6.out, HF.out.2.below HB6.out⟩
      · have HSL : Bx (Bts w3 (some ⟨b, off + (p + m), none⟩) n (cap - (p + m)) ((l.drop (p + m)).take n)) := ⟨HB3.out.part (p + m) n (cap - (p + m)) (by omega) (by omega) (by unfold maxLen; omega)⟩
        have hS0 : w3.drew.cell? ⟨gr, 0, none⟩ = some (.slice (some ⟨b, off, none⟩) len cap) ∧ w3.drew.cell? ⟨gr, 1, none⟩ = some (.int .i64 ((p : Int) + m + n)) ∧ Below w3.heap.size w3 w3.drew := ⟨k0, k1, (Below.refl _ _).drew⟩
        have HCP : Bx (∀ W, (W.cell? ⟨gr, 0, none⟩ = some (.slice (some ⟨b, off, none⟩) len cap) ∧ W.cell? ⟨gr, 1, none⟩ = some (.int .i64 ((p : Int) + m + n)) ∧ Below w3.heap.size w3 W) → Calls Tryz.prog 40 #[.slice (some ⟨b, off + (p + m), none⟩) n (cap - (p + m))] W fun e w' => ∃ v, e = .returned v ∧ w'.ownsRow w3.heap.size 5 1 v n (bv ((l.drop (p + m)).take n)) ∧ (w'.cell? ⟨gr, 0, none⟩ = some (.slice (some ⟨b, off, none⟩) len cap) ∧ w'.cell? ⟨gr, 1, none⟩ = some (.int .i64 ((p : Int) + m + n)) ∧ Below w3.heap.size w3 w') ∧ (∃ a1 n1 c1, v = .slice a1 n1 c1)) := ⟨fun W ⟨h0, h1, hW⟩ => (copy_any _ _ _ _ W (HSL.out.below hW) (by omega)).mono fun e w' ⟨v, e1, ho, hb⟩ => ⟨v, e1, owns_base ho hW.size, ⟨(hb.cell (p := ⟨gr, 0, none⟩) (Nat.lt_of_lt_of_le HGL.out hW.size)).trans h0, (hb.cell (p := ⟨gr, 1, none⟩) (Nat.lt_of_lt_of_le HGL.out hW.size)).trans h1, bstep hW hb⟩, own_form ho⟩⟩
        go_region_held3 (fun W => W.cell? ⟨gr, 0, none⟩ = some (.slice (some ⟨b, off, none⟩) len cap) ∧ W.cell? ⟨gr, 1, none⟩ = some (.int .i64 ((p : Int) + m + n)) ∧ Below w3.heap.size w3 W) (first | (exact hS0) | (exact hb6) | (assumption)) (first
          | (go_at_call 40; refine (HCP.out _ (by assumption)).mono ?_; rintro e6 w6 ⟨v6, rfl, hown6, hb6, a6, n6, c6, rfl⟩))
        rename_i hHeld
        have HO6 := Bx.mk hown6
        have HB6 := Bx.mk hHeld.2.2
        clear hown6 hHeld hb6 HCP hS0 k0 k1
        go_wp2_with fail
        go_ret
        exact .inr ⟨by trivial, (l.drop (p + m)).take n, l.drop (p + m + n), _, p + m + n, HPC2.out, rfl, by rw [List.length_take, List.length_drop, HLL.out, show min n (len - (p + m)) = n from by omega]; exact owns_base HO6.out HSZ.out, by omega, rfl, HF.out.1.below HB6.out, HF.out.2.below HB6.out⟩
end Go.Proofs.YtjnjokbdoendkaaGreat
namespace Go.Proofs.YtjnjokbdoendkaaGreat
open Go.RowKit
set_option linter.unusedVariables false

set_option maxRecDepth 100000 in
theorem rbyte_one (gr : Nat) (ao : Option Addr) (len cap p : Nat) (bad : Bool) (l : List Int) (w : World) (hr : Rdr w gr ao len cap p bad) (hb : Bts w ao len cap l) (hne : 0 < len → ∀ q, ao = some q → q.block ≠ gr) (hp : p ≤ len) (hbig : len ≤ 1099511627776) :
    Calls Tryz.prog 71 #[.pointer (some ⟨gr, 0, none⟩)] w fun e w' => ∃ kd p1 bad1, e = .returned (.int .u8 kd) ∧ p1 ≤ len ∧ RdW w w' gr ao len cap p1 bad1 ∧ Bx ((bad1 = true ∧ (bad = true ∨ len ≤ p)) ∨ (bad1 = false ∧ bad = false ∧ p < len ∧ kd = l.getD p 0 ∧ p1 = p + 1)) :=
  (rbyte_any gr ao len cap p bad l w hr hb hne hp hbig).mono fun e w' h => by
    rcases h with ⟨h1, h2, h3⟩ | ⟨h1, h2, h3, h4⟩
    · exact ⟨0, p, true, h2, hp, h3, ⟨.inl ⟨rfl, h1⟩⟩⟩
    · exact ⟨_, p + 1, false, h3, h2, h4, ⟨.inr ⟨rfl, h1, h2, rfl, rfl⟩⟩⟩
set_option maxRecDepth 100000 in
theorem rpiece_one (gr : Nat) (ao : Option Addr) (len cap p : Nat) (bad : Bool) (l : List Int) (w : World) (hr : Rdr w gr ao len cap p bad) (hb : Bts w ao len cap l) (hne : 0 < len → ∀ q, ao = some q → q.block ≠ gr) (hp : p ≤ len) (hbig : len ≤ 1099511627776) :
    Calls Tryz.prog 72 #[.pointer (some ⟨gr, 0, none⟩)] w fun e w' => ∃ x a n c p1 bad1, e = .returned (.slice a n c) ∧ Bts w' a n c x ∧ (0 < n → ∀ q, a = some q → w.heap.size ≤ q.block ∧ Unf w' q.block) ∧ p1 ≤ len ∧ RdW w w' gr ao len cap p1 bad1 ∧ Bx (Byt x ∧ x.length ≤ len ∧ ((bad1 = true ∧ (bad = true ∨ pc (l.drop p) = none) ∧ x = []) ∨ (bad1 = false ∧ bad = false ∧ pc (l.drop p) = some (x, l.drop p1)))) :=
  (rpiece_any gr ao len cap p bad l w hr hb hne hp hbig).mono fun e w' h => by
    rcases h with ⟨h1, h2, p2, h3, h4⟩ | ⟨h1, x, y, v, p2, h2, h3, h4, h5, h6, h7⟩
    · exact ⟨[], none, 0, 0, p2, true, h2, Bts.none0 w', fun hp => absurd hp (Nat.lt_irrefl _), h3, h4, ⟨Byt.nil, Nat.zero_le _, .inl ⟨rfl, h1, rfl⟩⟩⟩
    · have hbx : Byt x := (pc_byt (fun c hc => hb.byt c (List.mem_of_mem_drop hc)) h2).1
      obtain ⟨a, c, rfl, hm⟩ := Bts.of_owns h4 hbx
      exact ⟨x, a, x.length, c, p2, false, h3, hm, fun _ q e => ⟨(own_ge h4 q e).1, own_unf h4 q e⟩, h5, h7, ⟨hbx, by have h8 := (pc_byt (fun c hc => hb.byt c (List.mem_of_mem_drop hc)) h2).2.2; rw [List.length_drop, hb.len_eq] at h8; omega, .inr ⟨rfl, h1, by rw [← h6]; exact h2⟩⟩⟩
/-- the document's Decode at work -/
structure RDs (w wk : World) (gr : Nat) (ao : Option Addr) (len cap p : Nat) (bad : Bool) (gc : Nat) (cs : Array Value) (vP : Value) (P : List Chg) : Prop where
  low : Below w.heap.size w wk
  rd : Rdr wk gr ao len cap p bad
  ch : wk.heap[gc]? = some (.cells cs 48 (0, 0))
  cl : CL wk (fun k => w.heap.size ≤ k ∧ k ≠ gr ∧ k ≠ gc) vP P
  g1 : w.heap.size ≤ gr
  g2 : w.heap.size ≤ gc
  ne : gr ≠ gc
section
variable {w wk w' : World} {gr : Nat} {ao : Option Addr} {len cap p p' : Nat} {bad bad' : Bool} {gc : Nat} {cs : Array Value} {vP : Value} {P : List Chg}
set_option maxRecDepth 100000 in
theorem RDs.rdw (h : RDs w wk gr ao len cap p bad gc cs vP P) (k : RdW wk w' gr ao len cap p' bad') : RDs w w' gr ao len cap p' bad' gc cs vP P :=
  ⟨h.low.trans (k.1.low (fun j hj => by rw [hj]; exact h.g1) h.low.size), k.2, (k.1.block gc (Array.getElem?_eq_some_iff.1 h.ch).1 (fun e => h.ne e.symm)).trans h.ch, h.cl.kept k.1 (fun j hj => hj.2.1), h.g1, h.g2, h.ne⟩
set_option maxRecDepth 100000 in
theorem RDs.set (h : RDs w wk gr ao len cap p bad gc cs vP P) (j : Nat) (v : Value) : RDs w (wk.setCell ⟨gc, j, none⟩ v) gr ao len cap p bad gc (cs.setIfInBounds j v) vP P := by
  have ho : ∀ k, k ≠ gc → (wk.setCell ⟨gc, j, none⟩ v).heap[k]? = wk.heap[k]? := fun k hk => heap_setCell_other wk ⟨gc, j, none⟩ k v hk
  exact ⟨h.low.setCell (p := ⟨gc, j, none⟩) h.g2 v, (ho gr h.ne).trans h.rd, heap_setCell_same wk gc j _ _ v h.ch, h.cl.keep (fun k _ hk => ho k hk.2.2) (by simp) (fun _ _ h => h), h.g1, h.g2, h.ne⟩
set_option maxRecDepth 100000 in
theorem RDs.bts (h : RDs w wk gr ao len cap p bad gc cs vP P) {a : Option Addr} {n c : Nat} {l : List Int} (hb : Bts w a n c l) : Bts wk a n c l := hb.keep (fun hp _ e => h.low.block _ (hb.lt hp e)) h.low.size
set_option maxRecDepth 100000 in
theorem RDs.s0 {x y z : Value} (h : RDs w wk gr ao len cap p bad gc #[x, y, z] vP P) : wk.cell? ⟨gc, 0, none⟩ = some x ∧ wk.frozen? ⟨gc, 0, none⟩ = false := ⟨by rw [cell_of_row wk gc 0 _ _ (0, 0) h.ch]; rfl, frozen_of_row wk gc 0 _ _ h.ch⟩
set_option maxRecDepth 100000 in
theorem RDs.s1 {x y z : Value} (h : RDs w wk gr ao len cap p bad gc #[x, y, z] vP P) : wk.cell? ⟨gc, 1, none⟩ = some y ∧ wk.frozen? ⟨gc, 1, none⟩ = false := ⟨by rw [cell_of_row wk gc 1 _ _ (0, 0) h.ch]; rfl, frozen_of_row wk gc 1 _ _ h.ch⟩
set_option maxRecDepth 100000 in
theorem RDs.s2 {x y z : Value} (h : RDs w wk gr ao len cap p bad gc #[x, y, z] vP P) : wk.cell? ⟨gc, 2, none⟩ = some z ∧ wk.frozen? ⟨gc, 2, none⟩ = false := ⟨by rw [cell_of_row wk gc 2 _ _ (0, 0) h.ch]; rfl, frozen_of_row wk gc 2 _ _ h.ch⟩
set_option maxRecDepth 100000 in
theorem RDs.set0 {x y z : Value} (h : RDs w wk gr ao len cap p bad gc #[x, y, z] vP P) (v : Value) : RDs w (wk.setCell ⟨gc, 0, none⟩ v) gr ao len cap p bad gc #[v, y, z] vP P := by have h1 := h.set 0 v; simpa using h1
set_option maxRecDepth 100000 in
theorem RDs.set1 {x y z : Value} (h : RDs w wk gr ao len cap p bad gc #[x, y, z] vP P) (v : Value) : RDs w (wk.setCell ⟨gc, 1, none⟩ v) gr ao len cap p bad gc #[x, v, z] vP P := by have h1 := h.set 1 v; simpa using h1
set_option maxRecDepth 100000 in
theorem RDs.set2 {x y z : Value} (h : RDs w wk gr ao len cap p bad gc #[x, y, z] vP P) (v : Value) : RDs w (wk.setCell ⟨gc, 2, none⟩ v) gr ao len cap p bad gc #[x, y, v] vP P := by have h1 := h.set 2 v; simpa using h1
end
set_option maxRecDepth 100000 in
/-- one change, as the document reads it -/
theorem rtk_del {l x : List Int} {p p2 : Nat} (hp : p < l.length) (hk : l.getD p 0 = 1) (h : pc (l.drop (p + 1)) = some (x, l.drop p2)) : rtk (l.drop p) = some (⟨strOf x, true, []⟩, l.drop p2) := by
  rw [drop_getD l p hp, hk]; simp [rtk, h]
set_option maxRecDepth 100000 in
theorem rtk_put {l x y : List Int} {p p2 p3 : Nat} (hp : p < l.length) (hk : l.getD p 0 ≠ 1) (h : pc (l.drop (p + 1)) = some (x, l.drop p2)) (h2 : pc (l.drop p2) = some (y, l.drop p3)) : rtk (l.drop p) = some (⟨strOf x, false, y⟩, l.drop p3) := by
  rw [drop_getD l p hp]
  generalize l.getD p 0 = kd at hk ⊢
  simp [rtk, h, h2, hk]
set_option maxRecDepth 100000 in
theorem rtk_no0 {l : List Int} {p : Nat} (hp : l.length ≤ p) : rtk (l.drop p) = none := by rw [List.drop_eq_nil_of_le hp]; rfl
set_option maxRecDepth 100000 in
theorem rtk_no1 {l : List Int} {p : Nat} (hp : p < l.length) (h : pc (l.drop (p + 1)) = none) : rtk (l.drop p) = none := by
  rw [drop_getD l p hp]; simp [rtk, h]
set_option maxRecDepth 100000 in
theorem rtk_no2 {l x : List Int} {p p2 : Nat} (hp : p < l.length) (hk : l.getD p 0 ≠ 1) (h : pc (l.drop (p + 1)) = some (x, l.drop p2)) (h2 : pc (l.drop p2) = none) : rtk (l.drop p) = none := by
  rw [drop_getD l p hp]
  generalize l.getD p 0 = kd at hk ⊢
  simp [rtk, h, h2, hk]
set_option maxRecDepth 100000 in
theorem rtks_step {m : Nat} {R r : List Int} {c : Chg} (P : List Chg) (h : rtk R = some (c, r)) : pre P (rtks (m + 1) R) = pre (P ++ [c]) (rtks m r) := by
  rw [rtks, h]
  dsimp only
  cases rtks m r with
  | none => rfl
  | some p => simp [pre]
set_option maxRecDepth 100000 in
theorem rtks_no {m : Nat} {R : List Int} (P : List Chg) (h : rtk R = none) : pre P (rtks (m + 1) R) = none := by
  rw [rtks, h]; rfl
set_option maxRecDepth 100000 in
theorem rpre_done (P : List Chg) (R : List Int) : pre P (rtks 0 R) = some (P, R) := by simp [pre, rtks]
set_option maxRecDepth 100000 in
theorem rdec_tn {l : List Int} {n m : Nat} (hr : rd l 0 0 = ((n : Int), (m : Int), 0)) (h : rtks n (l.drop m) = none) : rdecL l = none := by
  unfold rdecL
  rw [hr]
  dsimp only
  rw [Int.toNat_natCast, Int.toNat_natCast, h]
  split <;> rfl
set_option maxRecDepth 100000 in
theorem rdec_ts {l r : List Int} {L : List Chg} {n m : Nat} (hr : rd l 0 0 = ((n : Int), (m : Int), 0)) (hn : n ≤ 16) (h : rtks n (l.drop m) = some (L, r)) : rdecL l = if chkL L = 0 ∧ encL L = l then some L else none := by
  unfold rdecL
  rw [hr]
  dsimp only
  rw [Int.toNat_natCast, Int.toNat_natCast, h, if_pos ⟨rfl, by omega⟩]
set_option maxRecDepth 100000 in
theorem rdec_no {l : List Int} {n : Nat} {m e : Int} (hr : rd l 0 0 = ((n : Int), m, e)) (hn : e ≠ 0 ∨ 16 < n) : rdecL l = none := by
  unfold rdecL
  rw [hr]
  dsimp only
  rw [if_neg (by omega)]
/-- what the loop keeps -/
def RLp (l : List Int) (n m k : Nat) (P : List Chg) (p : Nat) (bad : Bool) : Prop := (bad = false ∧ rtks n (l.drop m) = pre P (rtks (n - k) (l.drop p))) ∨ (bad = true ∧ rtks n (l.drop m) = none)
set_option maxRecDepth 100000 in
set_option maxHeartbeats 8000000 in
set_option maxRecDepth 100000 in
theorem refdecode_any (ao : Option Addr) (len cap : Nat) (l : List Int) (w : World) (h : Bts w ao len cap l) (hbig : len ≤ 1099511627776) :
    Calls Tryz.prog 39 #[.slice ao len cap] w fun e w' => DCP l w e w' := by
  have HB : Bx (Bts w ao len cap l) := ⟨h⟩
  have hl := h.len_eq
  have HLL : Bx (l.length = len) := ⟨hl⟩
  have HDD : Bx (rdecL l = decL l) := ⟨rdec_dec h.byt⟩
  have HBYT : Bx (Byt l) := ⟨h.byt⟩
  obtain ⟨n, m, ec, hr, hn, hm, hec⟩ := rd_facts h.byt
  rw [hl] at hm
  have HRD : Bx (rd l 0 0 = ((n : Int), (m : Int), ec)) := ⟨hr⟩
  have HLT : Bx (0 < len → ∀ q, ao = some q → q.block < w.heap.size) := ⟨fun hp q e => h.lt hp e⟩
  have HR0 : Bx (Rdr (w.alloc (.cells #[.slice ao len cap, .int .i64 0, .bool false] 134)) w.heap.size ao len cap 0 false) := ⟨heap_alloc_new w _⟩
  have HB0 : Bx (Below w.heap.size w (w.alloc (.cells #[.slice ao len cap, .int .i64 0, .bool false] 134))) := ⟨(Below.refl _ _).alloc (Nat.le_refl _) _⟩
  clear hl h hr
  go_enter Tryz.func39, Tryz.ntmps39
  go_wp2_with fail
  obtain ⟨gr, HGR⟩ : ∃ gr, Bx (gr = w.heap.size) := ⟨_, ⟨rfl⟩⟩
  rw [← HGR.out] at HR0 ⊢
  generalize w.alloc (.cells #[.slice ao len cap, .int .i64 0, .bool false] 134) = w0 at HR0 HB0 ⊢
  refine (rnumber_any gr ao len cap 0 false l _ HR0.out (HB.out.below HB0.out) (Nat.zero_le _) hbig).mono ?_
  rintro e w1 ⟨rfl, hW1⟩
  rw [List.drop_zero] at hW1 ⊢
  have HW1 := Bx.mk hW1
  have HB1 : Bx (Below w.heap.size w w1) := ⟨HB0.out.trans (hW1.1.low (fun j hj => by rw [hj, HGR.out]; exact Nat.le_refl _) HB0.out.size)⟩
  have HNE : Bx (0 < len → ∀ q, ao = some q → q.block ≠ gr) := ⟨fun hp q e e2 => by have h1 := HLT.out hp q e; have h2 := HGR.out; omega⟩
  clear hW1
  by_cases he : ec = 0
  · subst he
    obtain ⟨hm1, hm2⟩ := hm rfl
    clear hm hec
    have HN : Bx (nuB false l = false ∧ nuV false l = (n : Int) ∧ nuA false l = m) := ⟨nu_ok HRD.out⟩
    rw [HN.out.1, HN.out.2.2, Nat.zero_add] at HW1
    rw [HN.out.2.1]
    have c2 := HW1.out.2.c2
    by_cases hn16 : n ≤ 16
    · have g1 : decide ((n : Int) > 16) = false := by simp; omega
      have g1b : decide (16 < n) = false := by simp; omega
      have hst : ∃ (k : Nat) (P : List Chg) (p : Nat) (bad : Bool), k ≤ n ∧ (0 : Int) = k ∧ p ≤ len ∧ Rdr w1 gr ao len cap p bad ∧ Bx (CL w1 (fun k => w.heap.size ≤ k ∧ k ≠ gr) (.slice none 0 0) P ∧ P.length = k ∧ ∀ c ∈ P, c.key.size ≤ len) ∧ Below w.heap.size w w1 ∧ Bx (RLp l n m k P p bad) := ⟨0, [], m, false, Nat.zero_le _, rfl, hm2, HW1.out.2, ⟨RL.nil _ _, rfl, by simp⟩, HB1.out, ⟨.inl ⟨rfl, by rw [pre_nil]; rfl⟩⟩⟩
      go_wp2_with fail
      go_loopw [6, 7] (fun v i wr => ∃ (k : Nat) (P : List Chg) (p : Nat) (bad : Bool), k ≤ n ∧ i = .int .u64 k ∧ p ≤ len ∧ Rdr wr gr ao len cap p bad ∧ Bx (CL wr (fun k => w.heap.size ≤ k ∧ k ≠ gr) v P ∧ P.length = k ∧ ∀ c ∈ P, c.key.size ≤ len) ∧ Below w.heap.size w wr ∧ Bx (RLp l n m k P p bad)) (fun _ i _ => n - (intOf i).toNat)
      case atStart =>
        obtain ⟨k, P, p, bad, a1, a2, a3, a4, a5, a6, a7⟩ := hst
        exact ⟨k, P, p, bad, a1, by rw [a2], a3, a4, a5, a6, a7⟩
      case round =>
        clear hst HW1 HB1 c2
        obtain ⟨k, P, p, bad, hk, rfl, hp, hrd, HP, hbw, HT⟩ := hrel
        obtain ⟨vP, hvP⟩ : ∃ x, x = u6 := ⟨_, rfl⟩
        subst hvP
        have c2 := hrd.c2
        by_cases hgo : k < n ∧ bad = false
        · obtain ⟨hlt, rfl⟩ := hgo
          have hkI : (k : Int) < (n : Int) := by omega
          have HT0 : Bx (rtks n (l.drop m) = pre P (rtks (n - (k + 1) + 1) (l.drop p))) := ⟨by
            rcases HT.out with ⟨_, h⟩ | ⟨h, _⟩
            · rw [h, show n - k = n - (k + 1) + 1 from by omega]
            · cases h⟩
          have HLEN : Bx (k = P.length) := ⟨HP.out.2.1.symm⟩
          have HKY : Bx (∀ c ∈ P, c.key.size ≤ len) := ⟨HP.out.2.2⟩
          have hgr2 : gr < wr.heap.size := hrd.lt
          have HS0 : Bx (RDs w (wr.alloc (.cells #[.string ⟨#[]⟩, .bool false, .slice none 0 0] 48)) gr ao len cap p false wr.heap.size #[.string ⟨#[]⟩, .bool false, .slice none 0 0] vP P) := ⟨hbw.alloc hbw.size _, hrd.below ((Below.refl _ _).alloc (Nat.le_refl _) _), heap_alloc_new wr _, HP.out.1.keep (fun j hj _ => ((Below.refl wr.heap.size wr).alloc (Nat.le_refl _) _).block j hj) (by simp) (fun j hj ho => ⟨ho.1, ho.2, by omega⟩), by rw [HGR.out]; exact Nat.le_refl _, hbw.size, by omega⟩
          have HVB : Bx (∀ j, vP.ownBlock = some j → w.heap.size ≤ j ∧ j < wr.heap.size) := ⟨fun j hj => ⟨(HP.out.1.ob j hj).1, HP.out.1.lt hj⟩⟩
          have HSW : Bx (w.heap.size ≤ wr.heap.size) := ⟨hbw.size⟩
          clear HT hrd hbw HP
          go_wp2_with fail
          obtain ⟨gc, HGC⟩ : ∃ gc, Bx (gc = wr.heap.size) := ⟨_, ⟨rfl⟩⟩
          rw [← HGC.out] at HS0 ⊢
          generalize wr.alloc (.cells #[.string ⟨#[]⟩, .bool false, .slice none 0 0] 48) = wa at HS0 ⊢
          refine (rbyte_one gr ao len cap p false l _ HS0.out.rd (HS0.out.bts HB.out) HNE.out hp hbig).mono ?_
          rintro e wb ⟨kd, p1, bad1, rfl, hp1, hW, HK1⟩
          replace HS0 := Bx.mk (HS0.out.rdw hW)
          clear hW
          go_wp2_with fail
          refine (rpiece_one gr ao len cap p1 bad1 l _ HS0.out.rd (HS0.out.bts HB.out) HNE.out hp1 hbig).mono ?_
          rintro e wc ⟨x, a2, n2, d2, p2, bad2, rfl, hbx, hnx, hp2, hW, HK2⟩
          replace HS0 := Bx.mk (HS0.out.rdw hW)
          have hcv := hbx.str
          obtain ⟨k0, f0⟩ := HS0.out.s0
          obtain ⟨k1, f1⟩ := HS0.out.s1
          obtain ⟨k2, f2⟩ := HS0.out.s2
          have HS1 := Bx.mk (HS0.out.set0 (.string (strOf x)))
          clear hW hbx hnx HS0
          by_cases hkd : kd = 1
          · subst hkd
            have HS2 := Bx.mk (HS1.out.set1 (.bool true))
            have HBW := Bx.mk HS2.out.low
            have HYB : Bx (Bts ((wc.setCell ⟨gc, 0, none⟩ (.string (strOf x))).setCell ⟨gc, 1, none⟩ (.bool true)) none 0 0 [] ∧ (0 < 0 → ∀ q, (none : Option Addr) = some q → (w.heap.size ≤ q.block ∧ q.block ≠ gr) ∧ vP.ownBlock ≠ some q.block ∧ Unf ((wc.setCell ⟨gc, 0, none⟩ (.string (strOf x))).setCell ⟨gc, 1, none⟩ (.bool true)) q.block)) := ⟨Bts.none0 _, fun h => absurd h (Nat.lt_irrefl _)⟩
            have HFIN : Bx (RLp l n m (k + 1) (P ++ [⟨strOf x, true, []⟩]) p2 bad2) := ⟨by
              rcases HK2.out.2.2 with ⟨e2, hb2, _⟩ | ⟨e2, e1, hpc⟩
              · right
                refine ⟨e2, ?_⟩
                rw [HT0.out]
                refine rtks_no P ?_
                rcases HK1.out with ⟨e1, hq⟩ | ⟨e1, _, hq, _, hp1e⟩
                · rcases hq with hq | hq
                  · cases hq
                  · exact rtk_no0 (by rw [HLL.out]; exact hq)
                · rcases hb2 with hb2 | hb2
                  · rw [e1] at hb2; cases hb2
                  · exact rtk_no1 (by rw [HLL.out]; exact hq) (by rw [← hp1e]; exact hb2)
              · left
                refine ⟨e2, ?_⟩
                rcases HK1.out with ⟨e3, _⟩ | ⟨_, _, hq, hkd2, hp1e⟩
                · rw [e1] at e3; cases e3
                · rw [HT0.out, rtks_step P (rtk_del (by rw [HLL.out]; exact hq) hkd2.symm (by rw [← hp1e]; exact hpc))]⟩
            clear HS1
            obtain ⟨Z, hown, HRA⟩ := (HS2.out.cl.keep (own2 := fun k => w.heap.size ≤ k ∧ k ≠ gr) (fun _ _ _ => rfl) (Nat.le_refl _) (fun _ _ h => ⟨h.1, h.2.1⟩)).open
            rw [← HLEN.out] at hown
            have HBA : Bx (Below ((wc.setCell ⟨gc, 0, none⟩ (.string (strOf x))).setCell ⟨gc, 1, none⟩ (.bool true)).heap.size ((wc.setCell ⟨gc, 0, none⟩ (.string (strOf x))).setCell ⟨gc, 1, none⟩ (.bool true)) (((wc.setCell ⟨gc, 0, none⟩ (.string (strOf x))).setCell ⟨gc, 1, none⟩ (.bool true)).alloc (.cells #[.string (strOf x), .bool true, .slice none 0 0] 48))) := ⟨(Below.refl _ _).alloc (Nat.le_refl _) _⟩
            have HOA := Bx.mk (hown.alloc (.cells #[.string (strOf x), .bool true, .slice none 0 0] 48))
            have hsz9 : ((wc.setCell ⟨gc, 0, none⟩ (.string (strOf x))).setCell ⟨gc, 1, none⟩ (.bool true)).heap.size = wc.heap.size := by simp
            have hnw9 := World.news_of_block (heap_alloc_new ((wc.setCell ⟨gc, 0, none⟩ (.string (strOf x))).setCell ⟨gc, 1, none⟩ (.bool true)) (.cells #[.string (strOf x), .bool true, .slice none 0 0] 48))
            rw [hsz9] at hnw9
            have HNW := Bx.mk hnw9
            have HSZ9 := Bx.mk hsz9
            have HVK : Bx (∀ j, vP.ownBlock = some j → (w.heap.size ≤ j ∧ j ≠ gr) ∧ j < ((wc.setCell ⟨gc, 0, none⟩ (.string (strOf x))).setCell ⟨gc, 1, none⟩ (.bool true)).heap.size) := ⟨fun j hj => ⟨⟨(HS2.out.cl.ob j hj).1, (HS2.out.cl.ob j hj).2.1⟩, HS2.out.cl.lt hj⟩⟩
            have HRD9 : Bx (Rdr ((wc.setCell ⟨gc, 0, none⟩ (.string (strOf x))).setCell ⟨gc, 1, none⟩ (.bool true)) gr ao len cap p2 bad2) := ⟨HS2.out.rd⟩
            have hgl9 : Bx (gr < ((wc.setCell ⟨gc, 0, none⟩ (.string (strOf x))).setCell ⟨gc, 1, none⟩ (.bool true)).heap.size) := ⟨HS2.out.rd.lt⟩
            obtain ⟨i0, hi, hz0, hz1, hz2⟩ := info_parts Tryz.infoC
            have hsw9 := Bx.mk HBW.out.size
            have hk16 : k ≤ 16 := by omega
            clear hown HS2 hnw9 hsz9
            go_wp2_with (at_builtin; refine wpList_append_lies _ rfl (.tmp 50) (.tmp 52) 39 rfl 0 48 i0 (.agg #[.string ⟨#[]⟩, .bool false, .slice none 0 0]) 3 48 Tryz.underlying39 hi hz0 hz1 hz2 rfl (by decide) _ k (Z.flatMap chE) rfl HOA.out ⟨wc.heap.size, 0, none⟩ 1 1 [.string (strOf x), .bool true, .slice none 0 0] rfl rfl HNW.out (by simp [Value.oneCell']) (by decide) (by unfold maxLen; omega) (by omega) (Nat.zero_le _) _ rfl ?_)
            intro g4 cap4 w4 hown4 hgr4 hl4 hlt4
            have hl5 : vP.ownBlock = some g4 ∨ ((wc.setCell ⟨gc, 0, none⟩ (.string (strOf x))).setCell ⟨gc, 1, none⟩ (.bool true)).heap.size ≤ g4 := by
              rcases hl4 with h1 | h1
              · exact .inl h1
              · exact .inr (by have q9 := HSZ9.out; omega)
            have hg4 : w.heap.size ≤ g4 ∧ g4 ≠ gr := by
              rcases hl5 with h1 | h1
              · exact (HVK.out g4 h1).1
              · have q1 := hgl9.out; have q2 := hsw9.out; exact ⟨by omega, by omega⟩
            have HP4 : Bx (CL w4 (fun k => w.heap.size ≤ k ∧ k ≠ gr) (.slice (some ⟨g4, 0, none⟩) (k + 1) cap4) (P ++ [⟨strOf x, true, []⟩]) ∧ (P ++ [⟨strOf x, true, []⟩] : List Chg).length = k + 1 ∧ ∀ c ∈ (P ++ [⟨strOf x, true, []⟩] : List Chg), c.key.size ≤ len) := ⟨HRA.out.done (z := ⟨⟨strOf x, true, []⟩, none, 0, 0⟩) HLEN.out rfl HYB.out.1 HYB.out.2 HBA.out hown4 hgr4 hl5 (fun _ h => h) hg4, by rw [List.length_append, ← HLEN.out]; rfl, fun c hc => by
              rcases List.mem_append.1 hc with hc | hc
              · exact HKY.out c hc
              · have e9 : c = ⟨strOf x, true, []⟩ := by simpa using hc
                rw [e9]; show (strOf x).size ≤ len; rw [strOf_size]; exact HK2.out.2.1⟩
            have hK4 : Below w.heap.size w w4 := (bstep HBW.out HBA.out).grown hgr4 (by have := HBA.out.size; have := hsw9.out; omega) (fun j hj => (HVK.out j hj).1.1)
            have hRd4 : Rdr w4 gr ao len cap p2 bad2 := by
              have h1 := HRD9.out.below HBA.out
              exact (hgr4.block gr h1.lt (fun e => (HVK.out gr e.symm).1.2 rfl)).trans h1
            clear hown4 hgr4 hl4 hl5 HNW HOA HVK HRA HBA hi hz0 hz1 hz2 hg4 hlt4 HYB HBW HRD9
            go_wp2_with fail
            go_roundw
            case rel => exact ⟨k + 1, _, p2, bad2, by omega, by go_num, by assumption, hRd4, HP4, hK4, HFIN⟩
            case measure => simp [intOf]; omega
          · have gk : (kd == 1) = false := by simp [hkd]
            go_wp2_with fail
            generalize wc.setCell ⟨gc, 0, none⟩ (.string (strOf x)) = wd at HS1 ⊢
            refine (rpiece_one gr ao len cap p2 bad2 l _ HS1.out.rd (HS1.out.bts HB.out) HNE.out hp2 hbig).mono ?_
            rintro e we ⟨y, a3, n3, d3, p3, bad3, rfl, hby, hny, hp3, hW, HK3⟩
            have hsz := (Array.getElem?_eq_some_iff.1 HS1.out.ch).1
            have hrlt := HS1.out.rd.lt
            have HYN : Bx (0 < n3 → ∀ q, a3 = some q → (w.heap.size ≤ q.block ∧ q.block ≠ gr) ∧ vP.ownBlock ≠ some q.block ∧ Unf (we.setCell ⟨gc, 2, none⟩ (.slice a3 n3 d3)) q.block) := ⟨fun h0 q e => by
              have h1 := (hny h0 q e).1
              have h2 := HS1.out.low.size
              refine ⟨⟨by omega, by omega⟩, fun e2 => ?_, (hny h0 q e).2.keep (heap_setCell_other we ⟨gc, 2, none⟩ q.block _ (by show q.block ≠ gc; omega))⟩
              have h3 := HS1.out.cl.lt e2
              omega⟩
            have HYG : Bx (0 < n3 → ∀ q, a3 = some q → q.block ≠ gc) := ⟨fun h0 q e => by have h1 := (hny h0 q e).1; omega⟩
            have HS3 := Bx.mk (HS1.out.rdw hW)
            obtain ⟨l0, _⟩ := HS3.out.s0
            obtain ⟨l1, _⟩ := HS3.out.s1
            obtain ⟨l2, m2⟩ := HS3.out.s2
            have HS2 := Bx.mk (HS3.out.set2 (.slice a3 n3 d3))
            have HBW := Bx.mk HS2.out.low
            have HYB : Bx (Bts (we.setCell ⟨gc, 2, none⟩ (.slice a3 n3 d3)) a3 n3 d3 y ∧ (0 < n3 → ∀ q, a3 = some q → (w.heap.size ≤ q.block ∧ q.block ≠ gr) ∧ vP.ownBlock ≠ some q.block ∧ Unf (we.setCell ⟨gc, 2, none⟩ (.slice a3 n3 d3)) q.block)) := ⟨hby.keep (fun h0 q e => heap_setCell_other we ⟨gc, 2, none⟩ q.block _ (HYG.out h0 q e)) (by simp), HYN.out⟩
            have HFIN : Bx (RLp l n m (k + 1) (P ++ [⟨strOf x, false, y⟩]) p3 bad3) := ⟨by
              rcases HK3.out.2.2 with ⟨e3, hb3, _⟩ | ⟨e3, e2b, hpc3⟩
              · right
                refine ⟨e3, ?_⟩
                rw [HT0.out]
                refine rtks_no P ?_
                rcases HK1.out with ⟨e1, hq⟩ | ⟨e1, _, hq, hkd2, hp1e⟩
                · rcases hq with hq | hq
                  · cases hq
                  · exact rtk_no0 (by rw [HLL.out]; exact hq)
                · rcases HK2.out.2.2 with ⟨e2, hb2, _⟩ | ⟨e2, _, hpc⟩
                  · rcases hb2 with hb2 | hb2
                    · rw [e1] at hb2; cases hb2
                    · exact rtk_no1 (by rw [HLL.out]; exact hq) (by rw [← hp1e]; exact hb2)
                  · rcases hb3 with hb3 | hb3
                    · rw [e2] at hb3; cases hb3
                    · exact rtk_no2 (by rw [HLL.out]; exact hq) (by rw [← hkd2]; exact hkd) (by rw [← hp1e]; exact hpc) hb3
              · left
                refine ⟨e3, ?_⟩
                rcases HK2.out.2.2 with ⟨e2, _⟩ | ⟨_, e1b, hpc⟩
                · rw [e2b] at e2; cases e2
                · rcases HK1.out with ⟨e1, _⟩ | ⟨_, _, hq, hkd2, hp1e⟩
                  · rw [e1b] at e1; cases e1
                  · rw [HT0.out, rtks_step P (rtk_put (by rw [HLL.out]; exact hq) (by rw [← hkd2]; exact hkd) (by rw [← hp1e]; exact hpc) hpc3)]⟩
            clear k0 f0 k1 f1 k2 f2 hcv hby hny hW HS1 HS3 HYN HYG hsz hrlt
            obtain ⟨Z, hown, HRA⟩ := (HS2.out.cl.keep (own2 := fun k => w.heap.size ≤ k ∧ k ≠ gr) (fun _ _ _ => rfl) (Nat.le_refl _) (fun _ _ h => ⟨h.1, h.2.1⟩)).open
            rw [← HLEN.out] at hown
            have HBA : Bx (Below (we.setCell ⟨gc, 2, none⟩ (.slice a3 n3 d3)).heap.size (we.setCell ⟨gc, 2, none⟩ (.slice a3 n3 d3)) ((we.setCell ⟨gc, 2, none⟩ (.slice a3 n3 d3)).alloc (.cells #[.string (strOf x), .bool false, .slice a3 n3 d3] 48))) := ⟨(Below.refl _ _).alloc (Nat.le_refl _) _⟩
            have HOA := Bx.mk (hown.alloc (.cells #[.string (strOf x), .bool false, .slice a3 n3 d3] 48))
            have hsz9 : (we.setCell ⟨gc, 2, none⟩ (.slice a3 n3 d3)).heap.size = we.heap.size := by simp
            have hnw9 := World.news_of_block (heap_alloc_new (we.setCell ⟨gc, 2, none⟩ (.slice a3 n3 d3)) (.cells #[.string (strOf x), .bool false, .slice a3 n3 d3] 48))
            rw [hsz9] at hnw9
            have HNW := Bx.mk hnw9
            have HSZ9 := Bx.mk hsz9
            have HVK : Bx (∀ j, vP.ownBlock = some j → (w.heap.size ≤ j ∧ j ≠ gr) ∧ j < (we.setCell ⟨gc, 2, none⟩ (.slice a3 n3 d3)).heap.size) := ⟨fun j hj => ⟨⟨(HS2.out.cl.ob j hj).1, (HS2.out.cl.ob j hj).2.1⟩, HS2.out.cl.lt hj⟩⟩
            have HRD9 : Bx (Rdr (we.setCell ⟨gc, 2, none⟩ (.slice a3 n3 d3)) gr ao len cap p3 bad3) := ⟨HS2.out.rd⟩
            have hgl9 : Bx (gr < (we.setCell ⟨gc, 2, none⟩ (.slice a3 n3 d3)).heap.size) := ⟨HS2.out.rd.lt⟩
            obtain ⟨i0, hi, hz0, hz1, hz2⟩ := info_parts Tryz.infoC
            have hsw9 := Bx.mk HBW.out.size
            have hk16 : k ≤ 16 := by omega
            clear hown HS2 hnw9 hsz9
            go_wp2_with (at_builtin; refine wpList_append_lies _ rfl (.tmp 50) (.tmp 52) 39 rfl 0 48 i0 (.agg #[.string ⟨#[]⟩, .bool false, .slice none 0 0]) 3 48 Tryz.underlying39 hi hz0 hz1 hz2 rfl (by decide) _ k (Z.flatMap chE) rfl HOA.out ⟨we.heap.size, 0, none⟩ 1 1 [.string (strOf x), .bool false, .slice a3 n3 d3] rfl rfl HNW.out (by simp [Value.oneCell']) (by decide) (by unfold maxLen; omega) (by omega) (Nat.zero_le _) _ rfl ?_)
            intro g4 cap4 w4 hown4 hgr4 hl4 hlt4
            have hl5 : vP.ownBlock = some g4 ∨ (we.setCell ⟨gc, 2, none⟩ (.slice a3 n3 d3)).heap.size ≤ g4 := by
              rcases hl4 with h1 | h1
              · exact .inl h1
              · exact .inr (by have q9 := HSZ9.out; omega)
            have hg4 : w.heap.size ≤ g4 ∧ g4 ≠ gr := by
              rcases hl5 with h1 | h1
              · exact (HVK.out g4 h1).1
              · have q1 := hgl9.out; have q2 := hsw9.out; exact ⟨by omega, by omega⟩
            have HP4 : Bx (CL w4 (fun k => w.heap.size ≤ k ∧ k ≠ gr) (.slice (some ⟨g4, 0, none⟩) (k + 1) cap4) (P ++ [⟨strOf x, false, y⟩]) ∧ (P ++ [⟨strOf x, false, y⟩] : List Chg).length = k + 1 ∧ ∀ c ∈ (P ++ [⟨strOf x, false, y⟩] : List Chg), c.key.size ≤ len) := ⟨HRA.out.done (z := ⟨⟨strOf x, false, y⟩, a3, n3, d3⟩) HLEN.out rfl HYB.out.1 HYB.out.2 HBA.out hown4 hgr4 hl5 (fun _ h => h) hg4, by rw [List.length_append, ← HLEN.out]; rfl, fun c hc => by
              rcases List.mem_append.1 hc with hc | hc
              · exact HKY.out c hc
              · have e9 : c = ⟨strOf x, false, y⟩ := by simpa using hc
                rw [e9]; show (strOf x).size ≤ len; rw [strOf_size]; exact HK2.out.2.1⟩
            have hK4 : Below w.heap.size w w4 := (bstep HBW.out HBA.out).grown hgr4 (by have := HBA.out.size; have := hsw9.out; omega) (fun j hj => (HVK.out j hj).1.1)
            have hRd4 : Rdr w4 gr ao len cap p3 bad3 := by
              have h1 := HRD9.out.below HBA.out
              exact (hgr4.block gr h1.lt (fun e => (HVK.out gr e.symm).1.2 rfl)).trans h1
            clear hown4 hgr4 hl4 hl5 HNW HOA HVK HRA HBA hi hz0 hz1 hz2 hg4 hlt4 HYB HBW HRD9
            go_wp2_with fail
            go_roundw
            case rel => exact ⟨k + 1, _, p3, bad3, by omega, by go_num, by assumption, hRd4, HP4, hK4, HFIN⟩
            case measure => simp [intOf]; omega
        · have hov : (rtks n (l.drop m) = some (P, l.drop p) ∧ bad = false) ∨ (bad = true ∧ rtks n (l.drop m) = none) := by
            rcases HT.out with ⟨e, h⟩ | h
            · left
              have hkn : k = n := Decidable.byContradiction fun h2 => hgo ⟨by omega, e⟩
              exact ⟨by rw [h, hkn, Nat.sub_self, rpre_done], e⟩
            · exact .inr h
          obtain ⟨aP, cP, rfl, hPT⟩ := HP.out.1.rt chE_len
          have HPT : Bx (CT (fun k => w.heap.size ≤ k ∧ k ≠ gr) wr aP P.length cP P) := ⟨hPT⟩
          have hcmP := hPT.cap_le
          unfold maxLen at hcmP
          have HKS : Bx (∀ c ∈ P, c.key.size ≤ 9223372036854775807) := ⟨fun c hc => by have := HP.out.2.2 c hc; omega⟩
          have HCL := Bx.mk HP.out.1
          have HRR := Bx.mk hrd
          have HBW := Bx.mk hbw
          clear hPT HT HP hrd hbw
          have hcond : (k < n ∧ bad = true) ∨ ¬ k < n := by
            by_cases h1 : k < n
            · cases bad with
              | true => exact .inl ⟨h1, rfl⟩
              | false => exact absurd ⟨h1, rfl⟩ hgo
            · exact .inr h1
          clear hgo
          rcases hcond with ⟨hlt, rfl⟩ | hlt
          · have hkI : (k : Int) < (n : Int) := by omega
            have HD : Bx (decL l = none) := ⟨by
              rw [← HDD.out]
              rcases hov with ⟨_, h⟩ | ⟨_, h⟩
              · cases h
              · exact rdec_tn HRD.out h⟩
            clear hov
            go_wp2_with fail
            refine (refencode_any _ aP P.length cP P _ HPT.out HKS.out).mono ?_
            rintro e w5 ⟨v5, rfl, hown5, hb5⟩
            obtain ⟨a5, n5, c5, rfl⟩ := own_form hown5
            have hbw5 := bstep HBW.out hb5
            have d2 := (HRR.out.below hb5).c2
            generalize chkL P = Y
            clear hown5 hb5
            go_wp2_with fail
            go_ret2
            exact ⟨hbw5, .inl ⟨HD.out, rfl⟩⟩
          · have hkI : ¬ (k : Int) < (n : Int) := by omega
            go_wp2_with fail
            refine (refencode_any _ aP P.length cP P _ HPT.out HKS.out).mono ?_
            rintro e w5 ⟨v5, rfl, hown5, hb5⟩
            have hbw5 := bstep HBW.out hb5
            have HR5 := Bx.mk (HRR.out.below hb5)
            have d2 := HR5.out.c2
            have HC5 := Bx.mk (HCL.out.below hb5)
            cases bad with
            | true =>
              have HD : Bx (decL l = none) := ⟨by
                rw [← HDD.out]
                rcases hov with ⟨_, h⟩ | ⟨_, h⟩
                · cases h
                · exact rdec_tn HRD.out h⟩
              obtain ⟨a5, n5, c5, rfl⟩ := own_form hown5
              clear hov
              generalize chkL P = Y
              clear hown5 hb5
              go_wp2_with fail
              go_ret2
              exact ⟨hbw5, .inl ⟨HD.out, rfl⟩⟩
            | false =>
              have HTS : Bx (rdecL l = if chkL P = 0 ∧ encL P = l then some P else none) := ⟨by
                rcases hov with ⟨h, _⟩ | ⟨h, _⟩
                · exact rdec_ts HRD.out hn16 h
                · cases h⟩
              clear hov
              by_cases hY : chkL P = 0
              · have HER : Bx (encR P = encL P) := ⟨by unfold encR; rw [if_pos hY]⟩
                have HEB : Byt (encL P) := by
                  unfold encL
                  refine Byt.append (varL_byt _ (by omega) (by have := (chkL_ok hY).n2; omega)) (flatC_byt fun c hc => ?_)
                  obtain ⟨z, hz, e⟩ : ∃ z : It Chg, Bts w5 z.a z.n z.c z.x.val ∧ z.x = c := by
                    obtain ⟨Z, hZ, _, hx⟩ := HC5.out.row
                    rw [← hZ] at hc
                    obtain ⟨z, hz, rfl⟩ := List.mem_map.1 hc
                    exact ⟨z, (hx z hz).1, rfl⟩
                  rw [← e]
                  have h1 := hz.len_eq
                  have h2 := Nat.le_trans hz.le_cap hz.cap_le
                  unfold maxLen at h2
                  have h3 := HKS.out z.x (by rw [e]; exact hc)
                  exact ⟨hz.byt, by omega, by omega⟩
                rw [HER.out] at hown5
                obtain ⟨a5, c5, rfl, hm5⟩ := Bts.of_owns hown5 HEB
                rw [hY]
                have HM5 := Bx.mk hm5
                have HB5 := Bx.mk (HB.out.keep (fun hp q e => hbw5.block _ (HB.out.lt hp e)) hbw5.size)
                have HYY : Bx (chkL P = 0) := ⟨hY⟩
                clear hown5 hb5 hm5 hY HEB
                go_wp2_with fail
                refine (same_any a5 ao _ len c5 cap (encL P) l _ HM5.out HB5.out).mono ?_
                rintro e w6 ⟨rfl, q6, hq6⟩
                have hbw6 : Below w.heap.size w w6 := by rw [hq6]; exact below_drewN hbw5 q6
                have HC6 : Bx (CL w6 (fun k => w.heap.size ≤ k ∧ k < w6.heap.size) (.slice aP P.length cP) P) := ⟨by rw [hq6]; exact (HC5.out.drewN q6).keep (fun _ _ _ => rfl) (Nat.le_refl _) (fun j hj ho => ⟨ho.1, hj⟩)⟩
                by_cases hE : encL P = l
                · have HD : Bx (decL l = some P) := ⟨by rw [← HDD.out, HTS.out, if_pos ⟨HYY.out, hE⟩]⟩
                  have g9 : decide (encL P = l) = true := by simp [hE]
                  rw [g9]
                  clear g9 hE HTS hq6
                  go_wp2_with fail
                  go_ret2
                  exact ⟨hbw6, .inr ⟨P, _, HD.out, rfl, HC6.out⟩⟩
                · have HD : Bx (decL l = none) := ⟨by rw [← HDD.out, HTS.out, if_neg (fun hh => hE hh.2)]⟩
                  have g9 : decide (encL P = l) = false := by simp [hE]
                  rw [g9]
                  clear g9 hE HTS hq6
                  go_wp2_with fail
                  go_ret2
                  exact ⟨hbw6, .inl ⟨HD.out, rfl⟩⟩
              · have HD : Bx (decL l = none) := ⟨by rw [← HDD.out, HTS.out, if_neg (fun hh => hY hh.1)]⟩
                have g6 : (chkL P != 0) = true := by simp [hY]
                obtain ⟨a5, n5, c5, rfl⟩ := own_form hown5
                generalize chkL P = Y at g6 HTS ⊢
                clear hY HTS hown5 hb5
                go_wp2_with fail
                go_ret2
                exact ⟨hbw5, .inl ⟨HD.out, rfl⟩⟩
    · have HD : Bx (decL l = none) := ⟨by rw [← HDD.out, rdec_no HRD.out (.inr (by omega))]⟩
      have g1 : decide ((n : Int) > 16) = true := by simp; omega
      have g1b : decide (16 < n) = true := by simp; omega
      go_wp2_with fail
      go_ret2
      exact ⟨HB1.out, .inl ⟨HD.out, rfl⟩⟩
  · have HD : Bx (decL l = none) := ⟨by rw [← HDD.out, rdec_no HRD.out (.inl he)]⟩
    have HN : Bx (nuB false l = true ∧ nuV false l = 0 ∧ nuA false l = 0) := ⟨nu_err HRD.out he⟩
    rw [HN.out.1, HN.out.2.2] at HW1
    rw [HN.out.2.1]
    have c2 := HW1.out.2.c2
    clear he hm hec
    go_wp2_with fail
    go_ret2
    exact ⟨HB1.out, .inl ⟨HD.out, rfl⟩⟩
end Go.Proofs.YtjnjokbdoendkaaGreat
