/- The document's own reader. The document's own reader: a byte, a piece. -/
import Derived.Test.YtjnjokbdoendkaaSsd
import Derived.Test.YtjnjokbdoendkaaRefVar
import Derived.Test.YtjnjokbdoendkaaSma
namespace Go.Proofs.Ytjnjokbdoendkaa
open Go.RowKit
set_option linter.unusedVariables false

/-- a reader in memory -/
def Rdr (w : World) (gr : Nat) (ao : Option Addr) (len cap p : Nat) (bad : Bool) : Prop := w.heap[gr]? = some (.cells #[.slice ao len cap, .int .i64 (p : Int), .bool bad] 53 (0, 0))
/-- what a call leaves -/
def RdW (w w' : World) (gr : Nat) (ao : Option Addr) (len cap p : Nat) (bad : Bool) : Prop := Kept (fun k => k = gr) w w' ∧ Rdr w' gr ao len cap p bad
section
variable {w w' : World} {gr : Nat} {ao : Option Addr} {len cap p : Nat} {bad : Bool}
set_option maxRecDepth 100000 in
theorem Rdr.c0 (h : Rdr w gr ao len cap p bad) : w.cell? ⟨gr, 0, none⟩ = some (.slice ao len cap) := by rw [cell_of_row w gr 0 _ _ (0, 0) h]; rfl
set_option maxRecDepth 100000 in
theorem Rdr.c1 (h : Rdr w gr ao len cap p bad) : w.cell? ⟨gr, 1, none⟩ = some (.int .i64 (p : Int)) := by rw [cell_of_row w gr 1 _ _ (0, 0) h]; rfl
set_option maxRecDepth 100000 in
theorem Rdr.c2 (h : Rdr w gr ao len cap p bad) : w.cell? ⟨gr, 2, none⟩ = some (.bool bad) := by rw [cell_of_row w gr 2 _ _ (0, 0) h]; rfl
set_option maxRecDepth 100000 in
theorem Rdr.fr (h : Rdr w gr ao len cap p bad) (j : Nat) : w.frozen? ⟨gr, j, none⟩ = false := frozen_of_row _ _ j _ _ h
set_option maxRecDepth 100000 in
theorem Rdr.lt (h : Rdr w gr ao len cap p bad) : gr < w.heap.size := (Array.getElem?_eq_some_iff.1 h).1
set_option maxRecDepth 100000 in
theorem Rdr.setBad (h : Rdr w gr ao len cap p bad) : Rdr (w.setCell ⟨gr, 2, none⟩ (.bool true)) gr ao len cap p true := by
  have h1 := heap_setCell_same w gr 2 _ _ (.bool true) h
  unfold Rdr
  rw [h1]; simp
set_option maxRecDepth 100000 in
theorem Rdr.setAt (h : Rdr w gr ao len cap p bad) (q : Nat) : Rdr (w.setCell ⟨gr, 1, none⟩ (.int .i64 (q : Int))) gr ao len cap q bad := by
  have h1 := heap_setCell_same w gr 1 _ _ (.int .i64 (q : Int)) h
  unfold Rdr
  rw [h1]; simp
set_option maxRecDepth 100000 in
theorem Rdr.below (h : Rdr w gr ao len cap p bad) (hb : Below w.heap.size w w') : Rdr w' gr ao len cap p bad := (hb.block gr h.lt).trans h
set_option maxRecDepth 100000 in
theorem Rdr.drewN (h : Rdr w gr ao len cap p bad) (n : Nat) : Rdr (w.drewN n) gr ao len cap p bad := h
end
/-- Number: is it bad, what it is, how far -/
def nuB (bad : Bool) (D : List Int) : Bool := bad || decide ((rd D 0 0).2.2 ≠ 0)
def nuV (bad : Bool) (D : List Int) : Int := if nuB bad D = true then 0 else (rd D 0 0).1
def nuA (bad : Bool) (D : List Int) : Nat := if nuB bad D = true then 0 else (rd D 0 0).2.1.toNat
set_option maxRecDepth 100000 in
theorem nu_bad (D : List Int) : nuB true D = true ∧ nuV true D = 0 ∧ nuA true D = 0 := by simp [nuV, nuA, nuB]
set_option maxRecDepth 100000 in
theorem nu_ok {D : List Int} {n m : Nat} (h : rd D 0 0 = ((n : Int), (m : Int), 0)) : nuB false D = false ∧ nuV false D = (n : Int) ∧ nuA false D = m := by simp [nuV, nuA, nuB, h]
set_option maxRecDepth 100000 in
theorem nu_err {D : List Int} {x y e : Int} (h : rd D 0 0 = (x, y, e)) (he : e ≠ 0) : nuB false D = true ∧ nuV false D = 0 ∧ nuA false D = 0 := by simp [nuV, nuA, nuB, h, he]
set_option maxRecDepth 100000 in
/-- what is behind a place -/
theorem Bts.from {w : World} {b off len cap : Nat} {l : List Int} (h : Bts w (some ⟨b, off, none⟩) len cap l) (p : Nat) (hp : p ≤ len) : (cap = p ∧ Bts w (some ⟨b, off, none⟩) 0 0 (l.drop p)) ∨ (¬ cap = p ∧ Bts w (some ⟨b, off + p, none⟩) (len - p) (cap - p) (l.drop p)) := by
  have hcl := h.le_cap
  have hcm := h.cap_le
  by_cases hc : cap = p
  · have e3 : l.drop p = [] := List.drop_eq_nil_of_le (by rw [h.len_eq]; omega)
    rw [e3]
    exact .inl ⟨hc, rfl, Byt.nil, Nat.le_refl _, Nat.zero_le _, fun _ => rfl, fun hp => absurd hp (Nat.lt_irrefl _)⟩
  · refine .inr ⟨hc, (h.part p (len - p) (cap - p) (by omega) (by omega) (by omega)).list ?_⟩
    rw [List.take_of_length_le (by rw [List.length_drop, h.len_eq]; omega)]
set_option maxRecDepth 100000 in
theorem Bts.zero (w : World) (x : Addr) (c : Nat) (hc : c ≤ maxLen) : Bts w (some x) 0 c [] := ⟨rfl, Byt.nil, Nat.zero_le _, hc, (fun hh => by cases hh), fun hp => absurd hp (Nat.lt_irrefl _)⟩
set_option maxRecDepth 100000 in
theorem Bts.none0 (w : World) : Bts w none 0 0 [] := ⟨rfl, Byt.nil, Nat.le_refl _, Nat.zero_le _, fun _ => rfl, fun hp => absurd hp (Nat.lt_irrefl _)⟩
set_option maxRecDepth 100000 in
set_option maxHeartbeats 4000000 in
set_option maxRecDepth 100000 in
theorem rnumber_any (gr : Nat) (ao : Option Addr) (len cap p : Nat) (bad : Bool) (l : List Int) (w : World) (hr : Rdr w gr ao len cap p bad) (hb : Bts w ao len cap l) (hp : p ≤ len) (hbig : len ≤ 1099511627776) :
    Calls Try.prog 23 #[.pointer (some ⟨gr, 0, none⟩)] w fun e w' => e = .returned (.int .u64 (nuV bad (l.drop p))) ∧ RdW w w' gr ao len cap (p + nuA bad (l.drop p)) (nuB bad (l.drop p)) := by
  have hcl := hb.le_cap
  have hcm := hb.cap_le
  have HCM : Bx (cap ≤ maxLen) := ⟨hcm⟩
  unfold maxLen at hcm
  have HR : Bx (Rdr w gr ao len cap p bad) := ⟨hr⟩
  obtain ⟨n, m, ec, hrd, hn, hm, hec⟩ := rd_facts (l := l.drop p) (fun x hx => hb.byt x (List.mem_of_mem_drop hx))
  rw [List.length_drop, hb.len_eq] at hm
  have hpI : (p : Int) ≤ (len : Int) := by omega
  have hpc : (p : Int) ≤ (cap : Int) := by omega
  have HRD : Bx (rd (l.drop p) 0 0 = ((n : Int), (m : Int), ec)) := ⟨hrd⟩
  have hll := hb.len_eq
  clear hrd hr
  by_cases hl0 : len = 0
  · subst hl0
    obtain rfl : p = 0 := by omega
    have HD : Bx (l.drop 0 = []) := ⟨List.drop_eq_nil_of_le (by omega)⟩
    cases ao with
    | none =>
      obtain rfl : cap = 0 := hb.nil rfl
      have HTL : Bx (Bts w none 0 0 (l.drop 0)) := ⟨by rw [HD.out]; exact Bts.none0 w⟩
      clear hb
      have hS0 : w.drew.cell? ⟨gr, 0, none⟩ = some (.slice none 0 0) ∧ w.drew.cell? ⟨gr, 1, none⟩ = some (.int .i64 0) ∧ ∃ q, w.drew = w.drewN q := ⟨HR.out.c0, HR.out.c1, 1, rfl⟩
      have HRV : Bx (∀ W, (W.cell? ⟨gr, 0, none⟩ = some (.slice none 0 0) ∧ W.cell? ⟨gr, 1, none⟩ = some (.int .i64 0) ∧ ∃ q, W = w.drewN q) → Calls Try.prog 35 #[.slice none 0 0] W fun e w' => e = .returned (rdVal ((n : Int), (m : Int), ec)) ∧ W = w') := ⟨fun W ⟨_, _, q, hq⟩ => by rw [hq, ← HRD.out]; exact refreadvar_any _ _ _ _ _ (HTL.out.drewN q)⟩
      go_enter Try.func23, Try.ntmps23
      go_wp2_with fail
      go_region_held3 (fun W => W.cell? ⟨gr, 0, none⟩ = some (.slice none 0 0) ∧ W.cell? ⟨gr, 1, none⟩ = some (.int .i64 0) ∧ ∃ q, W = w.drewN q) (first | (exact hS0) | (assumption)) (first
        | (go_at_call 35; refine (HRV.out _ (by assumption)).mono ?_; unfold rdVal; rintro e6 w6 ⟨rfl, rfl⟩))
      rename_i hHeld
      clear HRV hS0 hHeld
      have HRq : Bx (Rdr w.drew gr none 0 0 0 bad) := ⟨HR.out⟩
      have HKq : Bx (Kept (fun k => k = gr) w w.drew) := ⟨(Kept.refl _ _).drew⟩
      generalize w.drew = wq at HRq HKq ⊢
      have c2 := HRq.out.c2
      have c1 := HRq.out.c1
      have f2 := HRq.out.fr 2
      have f1 := HRq.out.fr 1
      clear HR
      cases bad with
      | true =>
        have HN : Bx (nuB true (l.drop 0) = true ∧ nuV true (l.drop 0) = 0 ∧ nuA true (l.drop 0) = 0) := ⟨nu_bad _⟩
        have HF : Bx (RdW w (wq.setCell ⟨gr, 2, none⟩ (.bool true)) gr none 0 0 0 true) := ⟨HKq.out.setCell (.inl rfl) 2 _, HRq.out.setBad⟩
        go_wp2_with fail
        go_ret
        exact ⟨ret_int HN.out.2.1.symm, by rw [HN.out.1, HN.out.2.2]; exact HF.out⟩
      | false =>
        by_cases he : ec = 0
        · subst he
          obtain ⟨hm1, hm2⟩ := hm rfl
          exfalso
          omega
        · have HN : Bx (nuB false (l.drop 0) = true ∧ nuV false (l.drop 0) = 0 ∧ nuA false (l.drop 0) = 0) := ⟨nu_err HRD.out he⟩
          have HF : Bx (RdW w (wq.setCell ⟨gr, 2, none⟩ (.bool true)) gr none 0 0 0 true) := ⟨HKq.out.setCell (.inl rfl) 2 _, HRq.out.setBad⟩
          have g0 : (ec != 0) = true := by simp [he]
          clear he hec hm
          go_wp2_with fail
          go_ret
          exact ⟨ret_int HN.out.2.1.symm, by rw [HN.out.1, HN.out.2.2]; exact HF.out⟩
    | some ad =>
      by_cases hc0 : cap = 0
      · subst hc0
        have HTL : Bx (Bts w (some ad) 0 0 (l.drop 0)) := ⟨by rw [HD.out]; exact Bts.zero w ad 0 (Nat.zero_le _)⟩
        clear hb
        have hS0 : w.drew.cell? ⟨gr, 0, none⟩ = some (.slice (some ad) 0 0) ∧ w.drew.cell? ⟨gr, 1, none⟩ = some (.int .i64 0) ∧ ∃ q, w.drew = w.drewN q := ⟨HR.out.c0, HR.out.c1, 1, rfl⟩
        have HRV : Bx (∀ W, (W.cell? ⟨gr, 0, none⟩ = some (.slice (some ad) 0 0) ∧ W.cell? ⟨gr, 1, none⟩ = some (.int .i64 0) ∧ ∃ q, W = w.drewN q) → Calls Try.prog 35 #[.slice (some ad) 0 0] W fun e w' => e = .returned (rdVal ((n : Int), (m : Int), ec)) ∧ W = w') := ⟨fun W ⟨_, _, q, hq⟩ => by rw [hq, ← HRD.out]; exact refreadvar_any _ _ _ _ _ (HTL.out.drewN q)⟩
        go_enter Try.func23, Try.ntmps23
        go_wp2_with fail
        go_region_held3 (fun W => W.cell? ⟨gr, 0, none⟩ = some (.slice (some ad) 0 0) ∧ W.cell? ⟨gr, 1, none⟩ = some (.int .i64 0) ∧ ∃ q, W = w.drewN q) (first | (exact hS0) | (assumption)) (first
          | (go_at_call 35; refine (HRV.out _ (by assumption)).mono ?_; unfold rdVal; rintro e6 w6 ⟨rfl, rfl⟩))
        rename_i hHeld
        clear HRV hS0 hHeld
        have HRq : Bx (Rdr w.drew gr (some ad) 0 0 0 bad) := ⟨HR.out⟩
        have HKq : Bx (Kept (fun k => k = gr) w w.drew) := ⟨(Kept.refl _ _).drew⟩
        generalize w.drew = wq at HRq HKq ⊢
        have c2 := HRq.out.c2
        have c1 := HRq.out.c1
        have f2 := HRq.out.fr 2
        have f1 := HRq.out.fr 1
        clear HR
        cases bad with
        | true =>
          have HN : Bx (nuB true (l.drop 0) = true ∧ nuV true (l.drop 0) = 0 ∧ nuA true (l.drop 0) = 0) := ⟨nu_bad _⟩
          have HF : Bx (RdW w (wq.setCell ⟨gr, 2, none⟩ (.bool true)) gr (some ad) 0 0 0 true) := ⟨HKq.out.setCell (.inl rfl) 2 _, HRq.out.setBad⟩
          go_wp2_with fail
          go_ret
          exact ⟨ret_int HN.out.2.1.symm, by rw [HN.out.1, HN.out.2.2]; exact HF.out⟩
        | false =>
          by_cases he : ec = 0
          · subst he
            obtain ⟨hm1, hm2⟩ := hm rfl
            exfalso
            omega
          · have HN : Bx (nuB false (l.drop 0) = true ∧ nuV false (l.drop 0) = 0 ∧ nuA false (l.drop 0) = 0) := ⟨nu_err HRD.out he⟩
            have HF : Bx (RdW w (wq.setCell ⟨gr, 2, none⟩ (.bool true)) gr (some ad) 0 0 0 true) := ⟨HKq.out.setCell (.inl rfl) 2 _, HRq.out.setBad⟩
            have g0 : (ec != 0) = true := by simp [he]
            clear he hec hm
            go_wp2_with fail
            go_ret
            exact ⟨ret_int HN.out.2.1.symm, by rw [HN.out.1, HN.out.2.2]; exact HF.out⟩
      · have HTL : Bx (Bts w (some (ad.add 0)) 0 cap (l.drop 0)) := ⟨by rw [HD.out]; exact Bts.zero w _ cap HCM.out⟩
        clear hb
        have hS0 : w.drew.cell? ⟨gr, 0, none⟩ = some (.slice (some ad) 0 cap) ∧ w.drew.cell? ⟨gr, 1, none⟩ = some (.int .i64 0) ∧ ∃ q, w.drew = w.drewN q := ⟨HR.out.c0, HR.out.c1, 1, rfl⟩
        have HRV : Bx (∀ W, (W.cell? ⟨gr, 0, none⟩ = some (.slice (some ad) 0 cap) ∧ W.cell? ⟨gr, 1, none⟩ = some (.int .i64 0) ∧ ∃ q, W = w.drewN q) → Calls Try.prog 35 #[.slice (some (ad.add 0)) 0 cap] W fun e w' => e = .returned (rdVal ((n : Int), (m : Int), ec)) ∧ W = w') := ⟨fun W ⟨_, _, q, hq⟩ => by rw [hq, ← HRD.out]; exact refreadvar_any _ _ _ _ _ (HTL.out.drewN q)⟩
        go_enter Try.func23, Try.ntmps23
        go_wp2_with fail
        go_region_held3 (fun W => W.cell? ⟨gr, 0, none⟩ = some (.slice (some ad) 0 cap) ∧ W.cell? ⟨gr, 1, none⟩ = some (.int .i64 0) ∧ ∃ q, W = w.drewN q) (first | (exact hS0) | (assumption)) (first
          | (go_at_call 35; refine (HRV.out _ (by assumption)).mono ?_; unfold rdVal; rintro e6 w6 ⟨rfl, rfl⟩))
        rename_i hHeld
        clear HRV hS0 hHeld
        have HRq : Bx (Rdr w.drew gr (some ad) 0 cap 0 bad) := ⟨HR.out⟩
        have HKq : Bx (Kept (fun k => k = gr) w w.drew) := ⟨(Kept.refl _ _).drew⟩
        generalize w.drew = wq at HRq HKq ⊢
        have c2 := HRq.out.c2
        have c1 := HRq.out.c1
        have f2 := HRq.out.fr 2
        have f1 := HRq.out.fr 1
        clear HR
        cases bad with
        | true =>
          have HN : Bx (nuB true (l.drop 0) = true ∧ nuV true (l.drop 0) = 0 ∧ nuA true (l.drop 0) = 0) := ⟨nu_bad _⟩
          have HF : Bx (RdW w (wq.setCell ⟨gr, 2, none⟩ (.bool true)) gr (some ad) 0 cap 0 true) := ⟨HKq.out.setCell (.inl rfl) 2 _, HRq.out.setBad⟩
          go_wp2_with fail
          go_ret
          exact ⟨ret_int HN.out.2.1.symm, by rw [HN.out.1, HN.out.2.2]; exact HF.out⟩
        | false =>
          by_cases he : ec = 0
          · subst he
            obtain ⟨hm1, hm2⟩ := hm rfl
            exfalso
            omega
          · have HN : Bx (nuB false (l.drop 0) = true ∧ nuV false (l.drop 0) = 0 ∧ nuA false (l.drop 0) = 0) := ⟨nu_err HRD.out he⟩
            have HF : Bx (RdW w (wq.setCell ⟨gr, 2, none⟩ (.bool true)) gr (some ad) 0 cap 0 true) := ⟨HKq.out.setCell (.inl rfl) 2 _, HRq.out.setBad⟩
            have g0 : (ec != 0) = true := by simp [he]
            clear he hec hm
            go_wp2_with fail
            go_ret
            exact ⟨ret_int HN.out.2.1.symm, by rw [HN.out.1, HN.out.2.2]; exact HF.out⟩
  · obtain ⟨b, off, rfl, hbl, _⟩ := hb.spot (by omega)
    rcases hb.from p hp with ⟨hc, ht⟩ | ⟨hc, ht⟩
    · have HTL : Bx (Bts w (some ⟨b, off, none⟩) 0 0 (l.drop p)) := ⟨ht⟩
      obtain rfl : len = p := by omega
      subst hc
      clear hb ht
      have hS0 : w.drew.cell? ⟨gr, 0, none⟩ = some (.slice (some ⟨b, off, none⟩) cap cap) ∧ w.drew.cell? ⟨gr, 1, none⟩ = some (.int .i64 (cap : Int)) ∧ ∃ q, w.drew = w.drewN q := ⟨HR.out.c0, HR.out.c1, 1, rfl⟩
      have HRV : Bx (∀ W, (W.cell? ⟨gr, 0, none⟩ = some (.slice (some ⟨b, off, none⟩) cap cap) ∧ W.cell? ⟨gr, 1, none⟩ = some (.int .i64 (cap : Int)) ∧ ∃ q, W = w.drewN q) → Calls Try.prog 35 #[.slice (some ⟨b, off, none⟩) 0 0] W fun e w' => e = .returned (rdVal ((n : Int), (m : Int), ec)) ∧ W = w') := ⟨fun W ⟨_, _, q, hq⟩ => by rw [hq, ← HRD.out]; exact refreadvar_any _ _ _ _ _ (HTL.out.drewN q)⟩
      go_enter Try.func23, Try.ntmps23
      go_wp2_with fail
      go_region_held3 (fun W => W.cell? ⟨gr, 0, none⟩ = some (.slice (some ⟨b, off, none⟩) cap cap) ∧ W.cell? ⟨gr, 1, none⟩ = some (.int .i64 (cap : Int)) ∧ ∃ q, W = w.drewN q) (first | (exact hS0) | (assumption)) (first
        | (go_at_call 35; refine (HRV.out _ (by assumption)).mono ?_; unfold rdVal; rintro e6 w6 ⟨rfl, rfl⟩))
      rename_i hHeld
      clear HRV hS0 hHeld
      have HRq : Bx (Rdr w.drew gr (some ⟨b, off, none⟩) cap cap cap bad) := ⟨HR.out⟩
      have HKq : Bx (Kept (fun k => k = gr) w w.drew) := ⟨(Kept.refl _ _).drew⟩
      generalize w.drew = wq at HRq HKq ⊢
      have c2 := HRq.out.c2
      have c1 := HRq.out.c1
      have f2 := HRq.out.fr 2
      have f1 := HRq.out.fr 1
      clear HR
      cases bad with
      | true =>
        have HN : Bx (nuB true (l.drop cap) = true ∧ nuV true (l.drop cap) = 0 ∧ nuA true (l.drop cap) = 0) := ⟨nu_bad _⟩
        have HF : Bx (RdW w (wq.setCell ⟨gr, 2, none⟩ (.bool true)) gr (some ⟨b, off, none⟩) cap cap cap true) := ⟨HKq.out.setCell (.inl rfl) 2 _, HRq.out.setBad⟩
        go_wp2_with fail
        go_ret
        exact ⟨ret_int HN.out.2.1.symm, by rw [HN.out.1, HN.out.2.2]; exact HF.out⟩
      | false =>
        by_cases he : ec = 0
        · subst he
          obtain ⟨hm1, hm2⟩ := hm rfl
          exfalso
          omega
        · have HN : Bx (nuB false (l.drop cap) = true ∧ nuV false (l.drop cap) = 0 ∧ nuA false (l.drop cap) = 0) := ⟨nu_err HRD.out he⟩
          have HF : Bx (RdW w (wq.setCell ⟨gr, 2, none⟩ (.bool true)) gr (some ⟨b, off, none⟩) cap cap cap true) := ⟨HKq.out.setCell (.inl rfl) 2 _, HRq.out.setBad⟩
          have g0 : (ec != 0) = true := by simp [he]
          clear he hec hm
          go_wp2_with fail
          go_ret
          exact ⟨ret_int HN.out.2.1.symm, by rw [HN.out.1, HN.out.2.2]; exact HF.out⟩
    · have HTL : Bx (Bts w (some ⟨b, off + p, none⟩) (len - p) (cap - p) (l.drop p)) := ⟨ht⟩
      clear hb ht
      have hS0 : w.drew.cell? ⟨gr, 0, none⟩ = some (.slice (some ⟨b, off, none⟩) len cap) ∧ w.drew.cell? ⟨gr, 1, none⟩ = some (.int .i64 (p : Int)) ∧ ∃ q, w.drew = w.drewN q := ⟨HR.out.c0, HR.out.c1, 1, rfl⟩
      have HRV : Bx (∀ W, (W.cell? ⟨gr, 0, none⟩ = some (.slice (some ⟨b, off, none⟩) len cap) ∧ W.cell? ⟨gr, 1, none⟩ = some (.int .i64 (p : Int)) ∧ ∃ q, W = w.drewN q) → Calls Try.prog 35 #[.slice (some ⟨b, off + p, none⟩) (len - p) (cap - p)] W fun e w' => e = .returned (rdVal ((n : Int), (m : Int), ec)) ∧ W = w') := ⟨fun W ⟨_, _, q, hq⟩ => by rw [hq, ← HRD.out]; exact refreadvar_any _ _ _ _ _ (HTL.out.drewN q)⟩
      go_enter Try.func23, Try.ntmps23
      go_wp2_with fail
      go_region_held3 (fun W => W.cell? ⟨gr, 0, none⟩ = some (.slice (some ⟨b, off, none⟩) len cap) ∧ W.cell? ⟨gr, 1, none⟩ = some (.int .i64 (p : Int)) ∧ ∃ q, W = w.drewN q) (first | (exact hS0) | (assumption)) (first
        | (go_at_call 35; refine (HRV.out _ (by assumption)).mono ?_; unfold rdVal; rintro e6 w6 ⟨rfl, rfl⟩))
      rename_i hHeld
      clear HRV hS0 hHeld
      have HRq : Bx (Rdr w.drew gr (some ⟨b, off, none⟩) len cap p bad) := ⟨HR.out⟩
      have HKq : Bx (Kept (fun k => k = gr) w w.drew) := ⟨(Kept.refl _ _).drew⟩
      generalize w.drew = wq at HRq HKq ⊢
      have c2 := HRq.out.c2
      have c1 := HRq.out.c1
      have f2 := HRq.out.fr 2
      have f1 := HRq.out.fr 1
      clear HR
      cases bad with
      | true =>
        have HN : Bx (nuB true (l.drop p) = true ∧ nuV true (l.drop p) = 0 ∧ nuA true (l.drop p) = 0) := ⟨nu_bad _⟩
        have HF : Bx (RdW w (wq.setCell ⟨gr, 2, none⟩ (.bool true)) gr (some ⟨b, off, none⟩) len cap p true) := ⟨HKq.out.setCell (.inl rfl) 2 _, HRq.out.setBad⟩
        go_wp2_with fail
        go_ret
        exact ⟨ret_int HN.out.2.1.symm, by rw [HN.out.1, HN.out.2.2]; exact HF.out⟩
      | false =>
        by_cases he : ec = 0
        · subst he
          obtain ⟨hm1, hm2⟩ := hm rfl
          have HN : Bx (nuB false (l.drop p) = false ∧ nuV false (l.drop p) = (n : Int) ∧ nuA false (l.drop p) = m) := ⟨nu_ok HRD.out⟩
          have HF : Bx (RdW w (wq.setCell ⟨gr, 1, none⟩ (.int .i64 ((p + m : Nat) : Int))) gr (some ⟨b, off, none⟩) len cap (p + m) false) := ⟨HKq.out.setCell (.inl rfl) 1 _, HRq.out.setAt _⟩
          have hsum : ((p + m : Nat) : Int) = (p : Int) + (m : Int) := by omega
          rw [hsum] at HF
          have hw : IntKind.i64.wrap ((p : Int) + (m : Int)) = (p : Int) + (m : Int) := by rw [IntWalk.i64_in _ (by omega)]
          clear hsum
          go_wp2_with fail
          go_ret
          exact ⟨ret_int HN.out.2.1.symm, by rw [HN.out.1, HN.out.2.2]; exact HF.out⟩
        · have HN : Bx (nuB false (l.drop p) = true ∧ nuV false (l.drop p) = 0 ∧ nuA false (l.drop p) = 0) := ⟨nu_err HRD.out he⟩
          have HF : Bx (RdW w (wq.setCell ⟨gr, 2, none⟩ (.bool true)) gr (some ⟨b, off, none⟩) len cap p true) := ⟨HKq.out.setCell (.inl rfl) 2 _, HRq.out.setBad⟩
          have g0 : (ec != 0) = true := by simp [he]
          clear he hec hm
          go_wp2_with fail
          go_ret
          exact ⟨ret_int HN.out.2.1.symm, by rw [HN.out.1, HN.out.2.2]; exact HF.out⟩
end Go.Proofs.Ytjnjokbdoendkaa
namespace Go.Proofs.Ytjnjokbdoendkaa
open Go.RowKit
set_option linter.unusedVariables false

set_option maxRecDepth 100000 in
theorem RdW.bts {w w' : World} {gr : Nat} {ao : Option Addr} {len cap p : Nat} {bad : Bool} {a : Option Addr} {n c : Nat} {l : List Int} (h : RdW w w' gr ao len cap p bad) (hb : Bts w a n c l) (hne : 0 < n → ∀ q, a = some q → q.block ≠ gr) : Bts w' a n c l :=
  hb.keep (fun hp q e => h.1.block _ (hb.lt hp e) (hne hp q e)) h.1.size
set_option maxRecDepth 100000 in
set_option maxHeartbeats 2000000 in
theorem rbyte_any (gr : Nat) (ao : Option Addr) (len cap p : Nat) (bad : Bool) (l : List Int) (w : World) (hr : Rdr w gr ao len cap p bad) (hb : Bts w ao len cap l) (hne : 0 < len → ∀ q, ao = some q → q.block ≠ gr) (hp : p ≤ len) (hbig : len ≤ 1099511627776) :
    Calls Try.prog 24 #[.pointer (some ⟨gr, 0, none⟩)] w fun e w' => ((bad = true ∨ len ≤ p) ∧ e = .returned (.int .u8 0) ∧ RdW w w' gr ao len cap p true) ∨ (bad = false ∧ p < len ∧ e = .returned (.int .u8 (l.getD p 0)) ∧ RdW w w' gr ao len cap (p + 1) false) := by
  have HR : Bx (Rdr w gr ao len cap p bad) := ⟨hr⟩
  have HB : Bx (Bts w ao len cap l) := ⟨hb⟩
  have HNE : Bx (0 < len → ∀ q, ao = some q → q.block ≠ gr) := ⟨hne⟩
  have c0 := hr.c0
  have c1 := hr.c1
  have c2 := hr.c2
  have hcl := hb.le_cap
  have hcm := hb.cap_le
  unfold maxLen at hcm
  have HW0 : Bx (∀ q, RdW w ((w.drewN q).setCell ⟨gr, 2, none⟩ (.bool true)) gr ao len cap p true) := ⟨fun q => ⟨((Kept.refl (fun k => k = gr) w).drewN q).setCell (.inl rfl) 2 _, (HR.out.drewN q).setBad⟩⟩
  clear hr hb hne
  cases bad with
  | true =>
    have f2 := HR.out.fr 2
    go_enter Try.func24, Try.ntmps24
    go_wp2_with fail
    go_quiet (fail)
    have hf := HW0.out nq
    have f3 : (w.drewN nq).frozen? ⟨gr, 2, none⟩ = false := f2
    have d2 : (w.drewN nq).cell? ⟨gr, 2, none⟩ = some (.bool true) := c2
    go_wp2_with fail
    go_ret
    exact .inl ⟨.inl (by trivial), rfl, hf⟩
  | false =>
    by_cases hge : len ≤ p
    · have g1 : decide ((p : Int) ≥ (len : Int)) = true := by simp; omega
      have g2 : decide (len ≤ p) = true := by simp; omega
      have f2 := HR.out.fr 2
      go_enter Try.func24, Try.ntmps24
      go_wp2_with fail
      go_quiet (fail)
      have hf := HW0.out nq
      have f3 : (w.drewN nq).frozen? ⟨gr, 2, none⟩ = false := f2
      have d2 : (w.drewN nq).cell? ⟨gr, 2, none⟩ = some (.bool false) := c2
      go_wp2_with fail
      go_ret
      exact .inl ⟨.inr hge, rfl, hf⟩
    · have g1 : decide ((p : Int) ≥ (len : Int)) = false := by simp; omega
      have g2 : decide (len ≤ p) = false := by simp; omega
      obtain ⟨b, off, rfl, hbl, _⟩ := HB.out.spot (by omega)
      have hpI : (p : Int) < (len : Int) := by omega
      have hw1 : IntKind.i64.wrap ((p : Int) + 1) = (p : Int) + 1 := by rw [IntWalk.i64_in _ (by omega)]
      have hw2 : IntKind.i64.wrap (p : Int) = (p : Int) := by rw [IntWalk.i64_in _ (by omega)]
      have HW1 : Bx (∀ q, RdW w ((w.drewN q).setCell ⟨gr, 1, none⟩ (.int .i64 ((p : Int) + 1))) gr (some ⟨b, off, none⟩) len cap (p + 1) false) := ⟨fun q => ⟨((Kept.refl (fun k => k = gr) w).drewN q).setCell (.inl rfl) 1 _, (HR.out.drewN q).setAt (p + 1)⟩⟩
      have f1 := HR.out.fr 1
      go_enter Try.func24, Try.ntmps24
      go_wp2_with fail
      go_quiet (fail)
      have HF := Bx.mk (HW1.out nq)
      have f3 : (w.drewN nq).frozen? ⟨gr, 1, none⟩ = false := f1
      have d1 : (w.drewN nq).cell? ⟨gr, 1, none⟩ = some (.int .i64 (p : Int)) := c1
      clear g1 g2
      go_wp2_with fail
      generalize (w.drewN nq).setCell ⟨gr, 1, none⟩ (.int .i64 ((p : Int) + 1)) = w3 at HF ⊢
      have k0 := HF.out.2.c0
      have k1 : w3.cell? ⟨gr, 1, none⟩ = some (.int .i64 ((p : Int) + 1)) := HF.out.2.c1
      obtain ⟨b2, off2, e2, _, hc2⟩ := (HF.out.bts HB.out HNE.out).spot (by omega)
      cases e2
      have k2 := hc2 p (by omega)
      clear hc2 c0 c1 c2 d1
      go_quiet (fail)
      go_wp2_with fail
      go_ret
      exact .inr ⟨by trivial, by omega, rfl, HF.out.1.drewN _, HF.out.2.drewN _⟩
/-- what Piece answers -/
def PCP (l : List Int) (gr : Nat) (ao : Option Addr) (len cap p : Nat) (bad : Bool) (w : World) (e : Ending) (w' : World) : Prop :=
  ((bad = true ∨ pc (l.drop p) = none) ∧ e = .returned (.slice none 0 0) ∧ ∃ p2, p2 ≤ len ∧ RdW w w' gr ao len cap p2 true) ∨
  (bad = false ∧ ∃ x y v p2, pc (l.drop p) = some (x, y) ∧ e = .returned v ∧ w'.ownsRow w.heap.size 5 1 v x.length (bv x) ∧ p2 ≤ len ∧ y = l.drop p2 ∧ RdW w w' gr ao len cap p2 false)
set_option maxRecDepth 100000 in
theorem RdW.trans {w w1 w2 : World} {gr : Nat} {ao : Option Addr} {len cap p p2 : Nat} {bad bad2 : Bool} (h : RdW w w1 gr ao len cap p bad) (k : RdW w1 w2 gr ao len cap p2 bad2) : RdW w w2 gr ao len cap p2 bad2 := ⟨h.1.trans' k.1, k.2⟩
set_option maxRecDepth 100000 in
set_option maxHeartbeats 4000000 in
set_option maxRecDepth 100000 in
theorem rpiece_any (gr : Nat) (ao : Option Addr) (len cap p : Nat) (bad : Bool) (l : List Int) (w : World) (hr : Rdr w gr ao len cap p bad) (hb : Bts w ao len cap l) (hne : 0 < len → ∀ q, ao = some q → q.block ≠ gr) (hp : p ≤ len) (hbig : len ≤ 1099511627776) :
    Calls Try.prog 25 #[.pointer (some ⟨gr, 0, none⟩)] w fun e w' => PCP l gr ao len cap p bad w e w' := by
  have HR : Bx (Rdr w gr ao len cap p bad) := ⟨hr⟩
  have HB : Bx (Bts w ao len cap l) := ⟨hb⟩
  have HNE : Bx (0 < len → ∀ q, ao = some q → q.block ≠ gr) := ⟨hne⟩
  have HLL : Bx (l.length = len) := ⟨hb.len_eq⟩
  have hcl := hb.le_cap
  have hcm := hb.cap_le
  unfold maxLen at hcm
  obtain ⟨n, m, ec, hrd, hn, hm, hec⟩ := rd_facts (l := l.drop p) (fun x hx => hb.byt x (List.mem_of_mem_drop hx))
  rw [List.length_drop, hb.len_eq] at hm
  have HPC : Bx (pc (l.drop p) = if ec = 0 ∧ (n : Int) ≤ (len - p : Nat) - (m : Int) then some (((l.drop p).drop m).take n, ((l.drop p).drop m).drop n) else none) := ⟨by unfold pc; rw [hrd, List.length_drop, HLL.out]; simp⟩
  have HRD : Bx (rd (l.drop p) 0 0 = ((n : Int), (m : Int), ec)) := ⟨hrd⟩
  clear hr hb hne hrd
  go_enter Try.func25, Try.ntmps25
  go_wp2_with fail
  refine (rnumber_any gr ao len cap p bad l _ HR.out HB.out hp hbig).mono ?_
  rintro e w1 ⟨rfl, hW1⟩
  have HW1 := Bx.mk hW1
  by_cases hbd : bad = true ∨ ec ≠ 0
  · have HN : Bx (nuB bad (l.drop p) = true ∧ nuV bad (l.drop p) = 0 ∧ nuA bad (l.drop p) = 0) := ⟨by
      cases bad with
      | true => exact nu_bad _
      | false => exact nu_err HRD.out (by simpa using hbd)⟩
    have HNO : Bx (bad = true ∨ pc (l.drop p) = none) := ⟨by
      rcases hbd with h | h
      · exact .inl h
      · exact .inr (by rw [HPC.out, if_neg (fun hh => h hh.1)])⟩
    rw [HN.out.1, HN.out.2.2] at HW1
    rw [HN.out.2.1]
    have c2 := HW1.out.2.c2
    have f2 := HW1.out.2.fr 2
    have HF : Bx (∀ q, RdW w ((w1.drewN q).setCell ⟨gr, 2, none⟩ (.bool true)) gr ao len cap (p + 0) true) := ⟨fun q => ⟨(HW1.out.1.drewN q).setCell (.inl rfl) 2 _, (HW1.out.2.drewN q).setBad⟩⟩
    clear hbd hm hec hW1
    go_wp2_with fail
    go_quiet (fail)
    have hf := Bx.mk (HF.out nq)
    have f3 : (w1.drewN nq).frozen? ⟨gr, 2, none⟩ = false := f2
    have d2 : (w1.drewN nq).cell? ⟨gr, 2, none⟩ = some (.bool true) := c2
    clear c2 f2
    go_wp2_with fail
    go_ret
    exact .inl ⟨HNO.out, rfl, p, hp, hf.out⟩
  · obtain ⟨rfl, rfl⟩ : bad = false ∧ ec = 0 := by
      cases bad with
      | true => exact absurd (.inl rfl) hbd
      | false => exact ⟨rfl, Decidable.byContradiction fun h => hbd (.inr h)⟩
    obtain ⟨hm1, hm2⟩ := hm rfl
    have HN : Bx (nuB false (l.drop p) = false ∧ nuV false (l.drop p) = (n : Int) ∧ nuA false (l.drop p) = m) := ⟨nu_ok HRD.out⟩
    rw [HN.out.1, HN.out.2.2] at HW1
    rw [HN.out.2.1]
    have c0 := HW1.out.2.c0
    have c1 : w1.cell? ⟨gr, 1, none⟩ = some (.int .i64 ((p : Int) + m)) := by have h := HW1.out.2.c1; rw [Int.natCast_add] at h; exact h
    have c2 := HW1.out.2.c2
    have f2 := HW1.out.2.fr 2
    have f1 := HW1.out.2.fr 1
    have hwd : IntKind.i64.wrap ((len : Int) - ((p : Int) + m)) = (len : Int) - ((p : Int) + m) := by rw [IntWalk.i64_in _ (by omega)]
    have hwc : IntKind.u64.wrap ((len : Int) - ((p : Int) + m)) = (len : Int) - ((p : Int) + m) := by rw [IntKind.wrap_u64]; omega
    clear hbd hm hec hW1
    by_cases hgt : len < p + m + n
    · have HNO : Bx (pc (l.drop p) = none) := ⟨by rw [HPC.out, if_neg (by omega)]⟩
      have g1 : decide ((n : Int) > (len : Int) - ((p : Int) + m)) = true := by simp; omega
      have HF : Bx (∀ q, RdW w ((w1.drewN q).setCell ⟨gr, 2, none⟩ (.bool true)) gr ao len cap (p + m) true) := ⟨fun q => ⟨(HW1.out.1.drewN q).setCell (.inl rfl) 2 _, (HW1.out.2.drewN q).setBad⟩⟩
      go_wp2_with fail
      go_quiet (fail)
      have hf := Bx.mk (HF.out nq)
      have f3 : (w1.drewN nq).frozen? ⟨gr, 2, none⟩ = false := f2
      have d2 : (w1.drewN nq).cell? ⟨gr, 2, none⟩ = some (.bool false) := c2
      clear c2 f2 c0 c1 f1
      go_wp2_with fail
      go_ret
      exact .inl ⟨.inr HNO.out, rfl, p + m, by omega, hf.out⟩
    · have HPC2 : Bx (pc (l.drop p) = some ((l.drop (p + m)).take n, l.drop (p + m + n))) := ⟨by rw [HPC.out, if_pos ⟨rfl, by omega⟩, List.drop_drop, List.drop_drop]⟩
      have g1 : decide ((n : Int) > (len : Int) - ((p : Int) + m)) = false := by simp; omega
      obtain ⟨b, off, rfl, hbl, _⟩ := HB.out.spot (by omega)
      have hn40 : n ≤ 1099511627776 := by omega
      have hw3 : IntKind.i64.wrap (n : Int) = (n : Int) := by rw [IntWalk.i64_in _ (by omega)]
      have hw4 : IntKind.i64.wrap ((p : Int) + m + n) = (p : Int) + m + n := by rw [IntWalk.i64_in _ (by omega)]
      have hw5 : IntKind.i64.wrap ((p : Int) + m) = (p : Int) + m := by rw [IntWalk.i64_in _ (by omega)]
      have HF1 : Bx (∀ q, RdW w ((w1.drewN q).setCell ⟨gr, 1, none⟩ (.int .i64 ((p : Int) + m + n))) gr (some ⟨b, off, none⟩) len cap (p + m + n) false) := ⟨fun q => ⟨(HW1.out.1.drewN q).setCell (.inl rfl) 1 _, by have h := (HW1.out.2.drewN q).setAt (p + m + n); rw [Int.natCast_add, Int.natCast_add] at h; exact h⟩⟩
      have HSZ1 : Bx (w.heap.size ≤ w1.heap.size) := ⟨HW1.out.1.size⟩
      go_wp2_with fail
      go_quiet (fail)
      have HF := Bx.mk (HF1.out nq)
      have f3 : (w1.drewN nq).frozen? ⟨gr, 1, none⟩ = false := f1
      have d1 : (w1.drewN nq).cell? ⟨gr, 1, none⟩ = some (.int .i64 ((p : Int) + m)) := c1
      clear g1 c0 c1 c2 f1 f2
      go_wp2_with fail
      generalize (w1.drewN nq).setCell ⟨gr, 1, none⟩ (.int .i64 ((p : Int) + m + n)) = w3 at HF ⊢
      have k0 := HF.out.2.c0
      have k1 : w3.cell? ⟨gr, 1, none⟩ = some (.int .i64 ((p : Int) + m + n)) := by have h := HF.out.2.c1; rw [Int.natCast_add, Int.natCast_add] at h; exact h
      have HB3 := Bx.mk (HF.out.bts HB.out HNE.out)
      have HGL : Bx (gr < w3.heap.size) := ⟨HF.out.2.lt⟩
      have HSZ : Bx (w.heap.size ≤ w3.heap.size) := ⟨HF.out.1.size⟩
      have j1 : (p : Int) + m ≤ (p : Int) + m + n := by omega
      have j2 : (p : Int) + m + n ≤ (cap : Int) := by omega
      have j0 : (0 : Int) ≤ (p : Int) + m := by omega
      have j3 : (0 : Int) ≤ (p : Int) + m + n := by omega
      clear d1 f3 hwd hwc
      have ht1 : ((p : Int) + m).toNat = p + m := by omega
      have ht2 : ((p : Int) + m + n).toNat = p + m + n := by omega
      by_cases hcp : cap = p + m
      · have hif : (if cap = p + m then (some ⟨b, off, none⟩ : Option Addr) else some ⟨b, off + (p + m), none⟩) = some ⟨b, off, none⟩ := if_pos hcp
        have hcz : cap - (p + m) = 0 := by omega
        have HSL : Bx (Bts w3 (some ⟨b, off, none⟩) n 0 ((l.drop (p + m)).take n)) := ⟨by
          rw [show n = 0 from by omega]
          exact Bts.zero w3 _ 0 (Nat.zero_le _)⟩
        clear hcp
        have hS0 : w3.drew.cell? ⟨gr, 0, none⟩ = some (.slice (some ⟨b, off, none⟩) len cap) ∧ w3.drew.cell? ⟨gr, 1, none⟩ = some (.int .i64 ((p : Int) + m + n)) ∧ Below w3.heap.size w3 w3.drew := ⟨k0, k1, (Below.refl _ _).drew⟩
        have HCP : Bx (∀ W, (W.cell? ⟨gr, 0, none⟩ = some (.slice (some ⟨b, off, none⟩) len cap) ∧ W.cell? ⟨gr, 1, none⟩ = some (.int .i64 ((p : Int) + m + n)) ∧ Below w3.heap.size w3 W) → Calls Try.prog 7 #[.slice (some ⟨b, off, none⟩) n 0] W fun e w' => ∃ v, e = .returned v ∧ w'.ownsRow w3.heap.size 5 1 v n (bv ((l.drop (p + m)).take n)) ∧ (w'.cell? ⟨gr, 0, none⟩ = some (.slice (some ⟨b, off, none⟩) len cap) ∧ w'.cell? ⟨gr, 1, none⟩ = some (.int .i64 ((p : Int) + m + n)) ∧ Below w3.heap.size w3 w') ∧ (∃ a1 n1 c1, v = .slice a1 n1 c1)) := ⟨fun W ⟨h0, h1, hW⟩ => (copy_any _ _ _ _ W (HSL.out.below hW) (by omega)).mono fun e w' ⟨v, e1, ho, hb⟩ => ⟨v, e1, owns_base ho hW.size, ⟨(hb.cell (p := ⟨gr, 0, none⟩) (Nat.lt_of_lt_of_le HGL.out hW.size)).trans h0, (hb.cell (p := ⟨gr, 1, none⟩) (Nat.lt_of_lt_of_le HGL.out hW.size)).trans h1, bstep hW hb⟩, own_form ho⟩⟩
        go_region_held3 (fun W => W.cell? ⟨gr, 0, none⟩ = some (.slice (some ⟨b, off, none⟩) len cap) ∧ W.cell? ⟨gr, 1, none⟩ = some (.int .i64 ((p : Int) + m + n)) ∧ Below w3.heap.size w3 W) (first | (exact hS0) | (exact hb6) | (assumption)) (first
          | (go_at_call 7; refine (HCP.out _ (by assumption)).mono ?_; rintro e6 w6 ⟨v6, rfl, hown6, hb6, a6, n6, c6, rfl⟩))
        rename_i hHeld
        have HO6 := Bx.mk hown6
        have HB6 := Bx.mk hHeld.2.2
        clear hown6 hHeld hb6 HCP hS0 k0 k1
        go_wp2_with fail
        go_ret
        exact .inr ⟨by trivial, (l.drop (p + m)).take n, l.drop (p + m + n), _, p + m + n, HPC2.out, rfl, by rw [List.length_take, List.length_drop, HLL.out, show min n (len - (p + m)) = n from by omega]; exact owns_base HO6.out HSZ.out, by omega, rfl, HF.out.1.below HB6.out, HF.out.2.below HB6.out⟩
      · have HSL : Bx (Bts w3 (some ⟨b, off + (p + m), none⟩) n (cap - (p + m)) ((l.drop (p + m)).take n)) := ⟨HB3.out.part (p + m) n (cap - (p + m)) (by omega) (by omega) (by unfold maxLen; omega)⟩
        have hS0 : w3.drew.cell? ⟨gr, 0, none⟩ = some (.slice (some ⟨b, off, none⟩) len cap) ∧ w3.drew.cell? ⟨gr, 1, none⟩ = some (.int .i64 ((p : Int) + m + n)) ∧ Below w3.heap.size w3 w3.drew := ⟨k0, k1, (Below.refl _ _).drew⟩
        have HCP : Bx (∀ W, (W.cell? ⟨gr, 0, none⟩ = some (.slice (some ⟨b, off, none⟩) len cap) ∧ W.cell? ⟨gr, 1, none⟩ = some (.int .i64 ((p : Int) + m + n)) ∧ Below w3.heap.size w3 W) → Calls Try.prog 7 #[.slice (some ⟨b, off + (p + m), none⟩) n (cap - (p + m))] W fun e w' => ∃ v, e = .returned v ∧ w'.ownsRow w3.heap.size 5 1 v n (bv ((l.drop (p + m)).take n)) ∧ (w'.cell? ⟨gr, 0, none⟩ = some (.slice (some ⟨b, off, none⟩) len cap) ∧ w'.cell? ⟨gr, 1, none⟩ = some (.int .i64 ((p : Int) + m + n)) ∧ Below w3.heap.size w3 w') ∧ (∃ a1 n1 c1, v = .slice a1 n1 c1)) := ⟨fun W ⟨h0, h1, hW⟩ => (copy_any _ _ _ _ W (HSL.out.below hW) (by omega)).mono fun e w' ⟨v, e1, ho, hb⟩ => ⟨v, e1, owns_base ho hW.size, ⟨(hb.cell (p := ⟨gr, 0, none⟩) (Nat.lt_of_lt_of_le HGL.out hW.size)).trans h0, (hb.cell (p := ⟨gr, 1, none⟩) (Nat.lt_of_lt_of_le HGL.out hW.size)).trans h1, bstep hW hb⟩, own_form ho⟩⟩
        go_region_held3 (fun W => W.cell? ⟨gr, 0, none⟩ = some (.slice (some ⟨b, off, none⟩) len cap) ∧ W.cell? ⟨gr, 1, none⟩ = some (.int .i64 ((p : Int) + m + n)) ∧ Below w3.heap.size w3 W) (first | (exact hS0) | (exact hb6) | (assumption)) (first
          | (go_at_call 7; refine (HCP.out _ (by assumption)).mono ?_; rintro e6 w6 ⟨v6, rfl, hown6, hb6, a6, n6, c6, rfl⟩))
        rename_i hHeld
        have HO6 := Bx.mk hown6
        have HB6 := Bx.mk hHeld.2.2
        clear hown6 hHeld hb6 HCP hS0 k0 k1
        go_wp2_with fail
        go_ret
        exact .inr ⟨by trivial, (l.drop (p + m)).take n, l.drop (p + m + n), _, p + m + n, HPC2.out, rfl, by rw [List.length_take, List.length_drop, HLL.out, show min n (len - (p + m)) = n from by omega]; exact owns_base HO6.out HSZ.out, by omega, rfl, HF.out.1.below HB6.out, HF.out.2.below HB6.out⟩
end Go.Proofs.Ytjnjokbdoendkaa
