/- For every list of slices of bytes the law ShaParts returns true and the list reads as it did (P2.3): in whatever pieces bytes are added (up to 40 pieces of up to 300 bytes), the sum at each moment is that of all that was added, and it goes on behind it. The package's table is as the program's text lays it (the card ties it). -/
import Derived.Test.YtegcoilkdnmhoaaDoorDoor
import Derived.Test.YtegcoilkdnmhoaaDoorShaSum
import Derived.Test.YtegcoilkdnmhoaaDoorRefSum
import Derived.Test.YtegcoilkdnmhoaaDoorCut
import Derived.Test.YtegcoilkdnmhoaaDoorEql
import Derived.Test.YtegcoilkdnmhoaaDoorNew
import Derived.Deep.Slices
import Derived.WalkKit
import Derived.ShutString
import Derived.ChangeOld
import Derived.Below
namespace Go.Proofs.YtegcoilkdnmhoaaDoor.shaParts
open Go.ChangeShapes Go.WideShapes Go.ChangeAt Go.RowKit
open Go.ChangeMaps (open_string shut_string)
set_option linter.unusedVariables false

theorem laidOut : laidOutB Tryd.prog = true := by kernel_rfl

/-- a list of slices of bytes that came in -/
structure Lst (w : World) (ao : Option Addr) (len cap : Nat) : Prop where
  le_cap : len ≤ cap
  cap_le : cap ≤ maxLen
  spot : 0 < len → ∃ b off, ao = some ⟨b, off, none⟩ ∧ b < w.heap.size ∧ ∀ i, i < len → ∃ ai li ci zi, w.cell? ⟨b, off + i, none⟩ = some (.slice ai li ci) ∧ Bts w ai li ci zi
theorem Lst.below {w w' : World} {ao : Option Addr} {len cap : Nat} (h : Lst w ao len cap) (hb : Below w.heap.size w w') : Lst w' ao len cap :=
  ⟨h.le_cap, h.cap_le, fun hp => by
    obtain ⟨b, off, e, hlt, hc⟩ := h.spot hp
    refine ⟨b, off, e, Nat.lt_of_lt_of_le hlt hb.size, fun i hi => ?_⟩
    obtain ⟨ai, li, ci, zi, h1, h2⟩ := hc i hi
    exact ⟨ai, li, ci, zi, (hb.cell hlt).trans h1, h2.below hb⟩⟩
theorem Lst.cut {w : World} {ao : Option Addr} {len cap n : Nat} (h : Lst w ao len cap) (hn : n ≤ len) : Lst w ao n cap :=
  ⟨by have := h.le_cap; omega, h.cap_le, fun hp => by
    obtain ⟨b, off, e, hlt, hc⟩ := h.spot (by omega)
    exact ⟨b, off, e, hlt, fun i hi => hc i (by omega)⟩⟩
/-- what is owned stays while another block alone turns -/
theorem owns_but {w w' : World} {base gm n : Nat} {v : Value} {xs : List Value} (h : w.ownsRow base 5 1 v n xs) (hb : But gm w w') (hv : v.ownBlock ≠ some gm) : w'.ownsRow base 5 1 v n xs := by
  refine ⟨h.1, ?_⟩
  rcases h.2 with h2 | ⟨g, cap, cur, rfl, hg, hh, r⟩
  · exact .inl h2
  · have hne : g ≠ gm := fun e => hv (by rw [e]; rfl)
    exact .inr ⟨g, cap, cur, rfl, hg, by rw [hb.block g (Array.getElem?_eq_some_iff.1 hh).1 hne]; exact hh, r⟩
/-- what stays while the law goes on: the hash of hs in the block g, the hash of nothing in g2, the row of all -/
structure PT (N B g g2 : Nat) (hs bs : List Int) (v : Value) (w wr : World) : Prop where
  low : Below N w wr
  own : wr.ownsRow B 5 1 v bs.length (bv bs)
  hg : HashAt wr g hs
  ho : HashAt wr g2 []
  size : B ≤ wr.heap.size
theorem PT.below {N B g g2 : Nat} {hs bs : List Int} {v : Value} {w wr w1 : World} (h : PT N B g g2 hs bs v w wr) (hb : Below wr.heap.size wr w1) (hN : N ≤ B) : PT N B g g2 hs bs v w w1 :=
  ⟨h.low.trans (hb.mono (Nat.le_trans hN h.size)), owns_below h.own hb, h.hg.of_block (hb.block _ h.hg.lt), h.ho.of_block (hb.block _ h.ho.lt), Nat.le_trans h.size hb.size⟩
theorem PT.but {N B g g2 gm : Nat} {hs bs : List Int} {v : Value} {w wr w1 : World} (h : PT N B g g2 hs bs v w wr) (hb : But gm wr w1) (hN : N ≤ B) (h1 : gm ≠ g) (h2 : gm ≠ g2) (h3 : N ≤ gm) (hv : v.ownBlock ≠ some gm) : PT N B g g2 hs bs v w w1 :=
  ⟨h.low.trans (hb.low h3 (Nat.le_trans hN h.size)), owns_but h.own hb hv, h.hg.of_block (hb.block _ h.hg.lt (Ne.symm h1)), h.ho.of_block (hb.block _ h.ho.lt (Ne.symm h2)), Nat.le_trans h.size hb.size⟩
theorem PT.add {N B g g2 : Nat} {hs hs' bs : List Int} {v : Value} {w wr w1 : World} (h : PT N B g g2 hs bs v w wr) (hb : But g wr w1) (hh : HashAt w1 g hs') (hN : N ≤ B) (h2 : g ≠ g2) (h3 : N ≤ g) (h4 : g < B) : PT N B g g2 hs' bs v w w1 :=
  ⟨h.low.trans (hb.low h3 (Nat.le_trans hN h.size)), owns_but h.own hb (fun e => by have := (h.own.lt g e).1; omega), hh, h.ho.of_block (hb.block _ h.ho.lt (Ne.symm h2)), Nat.le_trans h.size hb.size⟩
theorem PT.grow {N B g g2 : Nat} {hs bs bs' : List Int} {v v' : Value} {w wr w1 : World} (h : PT N B g g2 hs bs v w wr) (hg : wr.grownBy w1 v.ownBlock) (hown : w1.ownsRow B 5 1 v' bs'.length (bv bs')) (hN : N ≤ B) (h1 : g < B) (h2 : g2 < B) : PT N B g g2 hs bs' v' w w1 := by
  have hb : Below B wr w1 := (Below.refl _ _).grown hg h.size (by intro k hk; exact (h.own.lt k hk).1)
  exact ⟨h.low.trans (hb.mono hN), hown, h.hg.of_block (hb.block _ h1), h.ho.of_block (hb.block _ h2), Nat.le_trans h.size hb.size⟩
theorem below_head {w : World} {a : Option Addr} {len cap : Nat} {l : List Int} (h : Bts w a len cap l) {g : Nat} (hg : w.heap.size ≤ g) : 0 < len → ∀ p, a = some p → p.block ≠ g := by
  intro hz p hp
  obtain ⟨sb, so, e, hlt, _⟩ := h.spot hz
  rw [e] at hp; cases hp
  show sb ≠ g; omega
theorem bts_back {w wo : World} {N : Nat} {a : Option Addr} {len cap : Nat} {l : List Int} (h : Bts wo a len cap l) (hlt : 0 < len → ∀ p, a = some p → p.block < N) (hb : Below N w wo) (hN : N ≤ w.heap.size) : Bts w a len cap l :=
  ⟨h.len_eq, h.byt, h.le_cap, h.cap_le, h.nil, fun hp => by
    obtain ⟨b, off, e, _, hc⟩ := h.spot hp
    have hbN : b < N := hlt hp _ e
    exact ⟨b, off, e, Nat.lt_of_lt_of_le hbN hN, fun i hi => (hb.cell (p := ⟨b, off + i, none⟩) hbN).symm.trans (hc i hi)⟩⟩
theorem own_apart {w : World} {base g n : Nat} {v : Value} {xs : List Value} (h : w.ownsRow base 5 1 v n xs) (hg : g < base ∨ w.heap.size ≤ g) : v.ownBlock ≠ some g := fun e => by
  have := h.lt g e
  omega
theorem own_addr {w : World} {base g n c : Nat} {a : Option Addr} {xs : List Value} (h : w.ownsRow base 5 1 (.slice a n c) n xs) (hg : g < base) : 0 < n → ∀ p, a = some p → p.block ≠ g := fun _ p hp e => own_apart h (.inl hg) (by rw [hp, ← e]; rfl)

set_option maxRecDepth 100000 in
set_option maxHeartbeats 1000000 in
theorem walk (a0 : Option Addr) (len0 cap0 : Nat) (w : World) (hL : Lst w a0 len0 cap0) (htab : Tab w) :
    Calls Tryd.prog 6 #[.slice a0 len0 cap0] w fun e w' => e = .returned (.bool true) ∧ Below w.heap.size w w' := by
  go_enter Tryd.func6, Tryd.ntmps6
  by_cases h40 : 40 < len0
  · have h40' : (40 : Int) < (len0 : Int) := by omega
    have hl := hL.cut (n := 40) (by omega)
    have hcc := hL.le_cap
    have hc40 : (40 : Int) ≤ (cap0 : Int) := by omega
    go_wp2_with fail
    refine (new_any _).mono ?_
    rintro e w1 ⟨g, rfl, hash1, hg1, hb1⟩
    go_wp2_with fail
    refine (new_any _).mono ?_
    rintro e w2 ⟨g2, rfl, hash2, hg2, hb2⟩
    have hlow2 := hb1.trans (hb2.mono hb1.size)
    have hglt := hash1.lt
    have hg2B := hash2.lt
    have hPT : PT w.heap.size w2.heap.size g g2 [] [] (.slice none 0 0) w w2 := ⟨hlow2, World.ownsRow_nil _ _ _ _, hash1.of_block (hb2.block g hglt), hash2, Nat.le_refl _⟩
    have hgg : g < g2 := Nat.lt_of_lt_of_le hglt hg2
    have hNB := hlow2.size
    have hNpos := htab.pos
    obtain ⟨N, hN⟩ : ∃ N, N = w.heap.size := ⟨_, rfl⟩
    rw [← hN] at hPT hNB hNpos hg1
    have HN : Hid (N = w.heap.size) := hN
    generalize w2.heap.size = B at hPT hNB hg2B
    clear hN hash1 hash2 hb1 hb2 hlow2 hg2 hglt
    have hl' : Hid (Lst w a0 40 cap0) := hl
    clear hl hL
    go_wp2
    go_loopw [5, 6] (fun v i wr => ∃ (k : Nat) (bs : List Int), k ≤ 40 ∧ i = .int .i64 k ∧ bs.length ≤ 300 * k ∧ Byt bs ∧ PT N B g g2 bs bs v w wr) (fun _ i _ => 40 - (intOf i).toNat)
    case atStart => exact ⟨0, [], Nat.zero_le _, rfl, Nat.zero_le _, Byt.nil, hPT⟩
    case round =>
      clear hPT
      obtain ⟨k, bs, hk, rfl, hbl, hbb, hP⟩ := hrel
      obtain ⟨vAll, hvAll⟩ : ∃ vAll, vAll = u5 := ⟨_, rfl⟩
      subst hvAll
      obtain ⟨wo, hwo⟩ : ∃ wo, wo = wr := ⟨_, rfl⟩
      subst hwo
      have hlow : Below w.heap.size w wo := by rw [← HN.out]; exact hP.low
      by_cases hlt : k < 40
      · obtain ⟨b, off, ea, hblt, hc⟩ := hl'.out.spot (by omega)
        subst ea
        obtain ⟨ai, li, ci, zi, hcell0, hbt0⟩ := hc k hlt
        have hcell := (hlow.cell (p := ⟨b, off + k, none⟩) hblt).trans hcell0
        have hbt := hbt0.below hlow
        have hkI : (k : Int) < (40 : Int) := by omega
        have hk0 : (0 : Int) ≤ (k : Int) := by omega
        clear hc hcell0
        go_wp2_with fail
        refine (cut_any ai li ci 300 zi _ hbt (by decide)).mono ?_
        rintro e w' ⟨⟨ly, rfl, hy⟩, rfl⟩
        have hly : ly ≤ 300 := by have := hy.len_eq; rw [List.length_take] at this; omega
        have hlyz : 0 < ly → 0 < li := fun hz => by have := hy.len_eq; have := hbt.len_eq; rw [List.length_take] at *; omega
        have hYw : Hid (Bts w ai ly ci (zi.take 300)) := bts_back hy (fun hz p hp => by obtain ⟨sb, so, e, hs, _⟩ := hbt0.spot (hlyz hz); rw [e] at hp; cases hp; exact hs) hlow (Nat.le_refl _)
        generalize zi.take 300 = y at hy hYw
        have hyl := hy.len_eq
        clear hbt hbt0 hcell hlyz
        go_wp2_with fail
        refine (copy_any _ _ _ y _ hy (by omega)).mono ?_
        rintro e w3 ⟨v3, rfl, hown3, hb3⟩
        have hvA : vAll.ownBlock = vAll.ownBlock := rfl
        have hP3 := hP.below hb3 hNB
        have hyb := hy.byt
        obtain ⟨a3, c3, rfl, hm3⟩ := Bts.of_owns hown3 hyb
        have hwoB := hP.size
        have hap3 := own_addr hown3 (g := g) (by omega)
        have hoA := own_apart hP.own (g := wo.heap.size)
        have ht3 : Tab w3 := htab.below (by rw [← HN.out]; exact hP3.low)
        have HOA : Hid (∀ q, wo.heap.size ≤ q → vAll.ownBlock ≠ some q) := fun q hq => own_apart hP.own (.inr hq)
        clear hoA hvA hP hy hlow
        go_wp2_with fail
        refine (add_any g bs y a3 ly c3 _ hP3.hg hm3 hap3 (by omega) ht3 (by omega)).mono ?_
        rintro e w4 ⟨rfl, hash4, hbut4⟩
        have hP4 := hP3.add hbut4 hash4 hNB (by omega) hg1 (by omega)
        have hown4 := owns_but hown3 hbut4 (own_apart hown3 (.inl (by omega)))
        clear hP3 hown3 hm3 ht3 hash4 hbut4 hb3
        generalize hWO : wo.heap.size = Z at hown4 HOA hwoB
        clear hWO
        go_wp2
        go_loopw [9] (fun i w5 => ∃ (j : Nat) (xs : List Value), j ≤ ly ∧ i = .int .i64 j ∧ w5.ownsRow Z 5 1 (.slice a3 ly c3) ly xs ∧ PT N B g g2 (bs ++ y) bs vAll w w5) (fun i _ => ly - (intOf i).toNat)
        case atStart => exact ⟨0, _, Nat.zero_le _, rfl, hown4, hP4⟩
        case round =>
          clear hown4 hP4
          obtain ⟨j, xs, hj, rfl, hown, hP⟩ := hrel
          by_cases hjl : j < ly
          · obtain ⟨gm, cm, e3, hgm, hgm'⟩ := owns_form hown (by omega)
            cases e3
            obtain ⟨c0, hc0⟩ := owns_cell hown j hjl
            have hf := hown.frozenAt j
            have hst := hown.stored j (.int .u8 9)
            have hP5 := hP.but ((But.refl gm wr).setCell j (.int .u8 9)) hNB (by omega) (by omega) (by omega) (HOA.out gm hgm)
            clear hown hP
            go_wp2
            go_roundw
            case rel => exact ⟨j + 1, _, by omega, by go_num, hst.1, hP5⟩
            case measure => simp [intOf]; omega
          · clear hown
            obtain ⟨i0, hi, hz0, hz1, hz2⟩ := info_parts Tryd.info5
            have hYr := hYw.out.below (show Below w.heap.size w wr by rw [← HN.out]; exact hP.low)
            obtain ⟨bs2, hbs2⟩ : ∃ bs2, bs2 = bs ++ y := ⟨_, rfl⟩
            have hb2l : bs2.length = bs.length + ly := by rw [hbs2, List.length_append, hyl]
            have hb2 : bs2.length ≤ 300 * (k + 1) := by omega
            have hb2b : Byt bs2 := by rw [hbs2]; exact hbb.append hyb
            have HB2 : Hid (bs2 = bs ++ y) := hbs2
            rw [← hbs2] at hP
            clear hbs2
            cases ai with
            | none =>
              have hci := hYr.nil rfl
              have hlc := hYr.le_cap
              have hl0 : ly = 0 := by omega
              have hy0 : y = [] := List.eq_nil_of_length_eq_zero (by omega)
              have hbe : bs = bs2 := by rw [HB2.out, hy0, List.append_nil]
              have hP6 : PT N B g g2 bs2 bs2 vAll w wr := by rw [hbe] at hP; exact hP
              have hown6 := hP6.own
              obtain ⟨w6, hw6⟩ : ∃ w6, w6 = wr := ⟨_, rfl⟩
              subst hw6
              subst hci
              subst hl0
              clear hP hYr hYw hbe hy0 hyl HB2 hlc hj hjl hly hb2l
              go_wp2_with (at_builtin; refine wpList_append_own_none rfl _ _ 22 rfl B 5 i0 1 Tryd.underlying22 hi _ _ _ rfl hown6 rfl ?_)
              clear hown6 hi hz0 hz1 hz2
              obtain ⟨aA, cA, rfl, hmA⟩ := Bts.of_owns hP6.own hb2b
              have ht6 : Tab w6 := htab.below (by rw [← HN.out]; exact hP6.low)
              go_wp2_with fail
              refine (count_any g bs2 _ hP6.hg).mono ?_
              rintro e w' ⟨rfl, rfl⟩
              go_wp2_with fail
              refine (hsum_any g bs2 _ hP6.hg ht6 (by omega)).mono ?_
              rintro e w7 ⟨rfl, hb7⟩
              have hP7 := hP6.below hb7 hNB
              have hm7 := hmA.below hb7
              clear hP6 hmA hb7 ht6
              go_wp2_with fail
              refine (refsum_any _ _ _ bs2 _ hm7 (by omega)).mono ?_
              rintro e w8 ⟨rfl, hb8⟩
              have hP8 := hP7.below hb8 hNB
              have heq := dig_eq (sumL bs2) (sumL_length bs2)
              clear hP7 hm7 hb8
              generalize (bv (sumL bs2)).toArray = D at heq ⊢
              go_wp2
              go_roundw
              case rel => exact ⟨k + 1, bs2, by omega, by go_num, hb2, hb2b, hP8⟩
              case measure => simp [intOf]; omega
            | some ad =>
              have hcells := hYr.cells
              have hlc0 : (bv y).length = ly * 1 := by rw [bv_length, hyl]; omega
              go_wp2_with (at_builtin; refine wpList_append_own _ rfl _ _ 22 rfl B 5 i0 (.int .u8 0) 1 1 Tryd.underlying22 hi hz0 hz1 hz2 rfl (by decide) _ _ _ rfl hP.own ad ly ci (bv y) rfl hlc0 hcells (bv_one y) (by unfold maxLen; omega) (by omega) hP.size ?_)
              intro v' w6 hown6 hgrow _
              rw [← bv_append, ← HB2.out, ← hb2l] at hown6
              have hP6 := hP.grow hgrow hown6 hNB (by omega) hg2B
              clear hP hYr hYw hown6 hgrow hcells hlc0 hi hz0 hz1 hz2 HB2 hyl hb2l
              obtain ⟨aA, cA, rfl, hmA⟩ := Bts.of_owns hP6.own hb2b
              have ht6 : Tab w6 := htab.below (by rw [← HN.out]; exact hP6.low)
              go_wp2_with fail
              refine (count_any g bs2 _ hP6.hg).mono ?_
              rintro e w' ⟨rfl, rfl⟩
              go_wp2_with fail
              refine (hsum_any g bs2 _ hP6.hg ht6 (by omega)).mono ?_
              rintro e w7 ⟨rfl, hb7⟩
              have hP7 := hP6.below hb7 hNB
              have hm7 := hmA.below hb7
              clear hP6 hmA hb7 ht6
              go_wp2_with fail
              refine (refsum_any _ _ _ bs2 _ hm7 (by omega)).mono ?_
              rintro e w8 ⟨rfl, hb8⟩
              have hP8 := hP7.below hb8 hNB
              have heq := dig_eq (sumL bs2) (sumL_length bs2)
              clear hP7 hm7 hb8
              generalize (bv (sumL bs2)).toArray = D at heq ⊢
              go_wp2
              go_roundw
              case rel => exact ⟨k + 1, bs2, by omega, by go_num, hb2, hb2b, hP8⟩
              case measure => simp [intOf]; omega
      · have ht : Tab wo := htab.below hlow
        go_wp2_with fail
        refine (count_any g2 [] _ hP.ho).mono ?_
        rintro e w' ⟨rfl, rfl⟩
        go_wp2_with fail
        refine (hsum_any g2 [] _ hP.ho ht (by decide)).mono ?_
        rintro e w7 ⟨rfl, hb7⟩
        have hlow7 := hlow.trans (hb7.mono hlow.size)
        go_wp2_with fail
        refine (refsum_any none 0 0 [] _ (Bts.none rfl) (by decide)).mono ?_
        rintro e w8 ⟨rfl, hb8⟩
        have hlow8 := hlow7.trans (hb8.mono hlow7.size)
        have heq := dig_eq (sumL []) (sumL_length [])
        generalize (bv (sumL [])).toArray = D at heq ⊢
        have ht8 := htab.below hlow8
        clear hlow7 hb7 hb8 hP hlow ht
        go_wp2_with fail
        refine (lives_any _ ht8).mono ?_
        rintro e w9 ⟨rfl, hb9⟩
        go_wp2
        go_ret
        exact ⟨rfl, hlow8.trans (hb9.mono hlow8.size)⟩
  · have h40' : ¬ (40 : Int) < (len0 : Int) := by omega
    have hl := hL
    have hn40 : len0 ≤ 40 := by omega
    go_wp2_with fail
    refine (new_any _).mono ?_
    rintro e w1 ⟨g, rfl, hash1, hg1, hb1⟩
    go_wp2_with fail
    refine (new_any _).mono ?_
    rintro e w2 ⟨g2, rfl, hash2, hg2, hb2⟩
    have hlow2 := hb1.trans (hb2.mono hb1.size)
    have hglt := hash1.lt
    have hg2B := hash2.lt
    have hPT : PT w.heap.size w2.heap.size g g2 [] [] (.slice none 0 0) w w2 := ⟨hlow2, World.ownsRow_nil _ _ _ _, hash1.of_block (hb2.block g hglt), hash2, Nat.le_refl _⟩
    have hgg : g < g2 := Nat.lt_of_lt_of_le hglt hg2
    have hNB := hlow2.size
    have hNpos := htab.pos
    obtain ⟨N, hN⟩ : ∃ N, N = w.heap.size := ⟨_, rfl⟩
    rw [← hN] at hPT hNB hNpos hg1
    have HN : Hid (N = w.heap.size) := hN
    generalize w2.heap.size = B at hPT hNB hg2B
    clear hN hash1 hash2 hb1 hb2 hlow2 hg2 hglt
    have hl' : Hid (Lst w a0 len0 cap0) := hl
    clear hl hL
    go_wp2
    go_loopw [5, 6] (fun v i wr => ∃ (k : Nat) (bs : List Int), k ≤ len0 ∧ i = .int .i64 k ∧ bs.length ≤ 300 * k ∧ Byt bs ∧ PT N B g g2 bs bs v w wr) (fun _ i _ => len0 - (intOf i).toNat)
    case atStart => exact ⟨0, [], Nat.zero_le _, rfl, Nat.zero_le _, Byt.nil, hPT⟩
    case round =>
      clear hPT
      obtain ⟨k, bs, hk, rfl, hbl, hbb, hP⟩ := hrel
      obtain ⟨vAll, hvAll⟩ : ∃ vAll, vAll = u5 := ⟨_, rfl⟩
      subst hvAll
      obtain ⟨wo, hwo⟩ : ∃ wo, wo = wr := ⟨_, rfl⟩
      subst hwo
      have hlow : Below w.heap.size w wo := by rw [← HN.out]; exact hP.low
      by_cases hlt : k < len0
      · obtain ⟨b, off, ea, hblt, hc⟩ := hl'.out.spot (by omega)
        subst ea
        obtain ⟨ai, li, ci, zi, hcell0, hbt0⟩ := hc k hlt
        have hcell := (hlow.cell (p := ⟨b, off + k, none⟩) hblt).trans hcell0
        have hbt := hbt0.below hlow
        have hkI : (k : Int) < (len0 : Int) := by omega
        have hk0 : (0 : Int) ≤ (k : Int) := by omega
        clear hc hcell0
        go_wp2_with fail
        refine (cut_any ai li ci 300 zi _ hbt (by decide)).mono ?_
        rintro e w' ⟨⟨ly, rfl, hy⟩, rfl⟩
        have hly : ly ≤ 300 := by have := hy.len_eq; rw [List.length_take] at this; omega
        have hlyz : 0 < ly → 0 < li := fun hz => by have := hy.len_eq; have := hbt.len_eq; rw [List.length_take] at *; omega
        have hYw : Hid (Bts w ai ly ci (zi.take 300)) := bts_back hy (fun hz p hp => by obtain ⟨sb, so, e, hs, _⟩ := hbt0.spot (hlyz hz); rw [e] at hp; cases hp; exact hs) hlow (Nat.le_refl _)
        generalize zi.take 300 = y at hy hYw
        have hyl := hy.len_eq
        clear hbt hbt0 hcell hlyz
        go_wp2_with fail
        refine (copy_any _ _ _ y _ hy (by omega)).mono ?_
        rintro e w3 ⟨v3, rfl, hown3, hb3⟩
        have hvA : vAll.ownBlock = vAll.ownBlock := rfl
        have hP3 := hP.below hb3 hNB
        have hyb := hy.byt
        obtain ⟨a3, c3, rfl, hm3⟩ := Bts.of_owns hown3 hyb
        have hwoB := hP.size
        have hap3 := own_addr hown3 (g := g) (by omega)
        have hoA := own_apart hP.own (g := wo.heap.size)
        have ht3 : Tab w3 := htab.below (by rw [← HN.out]; exact hP3.low)
        have HOA : Hid (∀ q, wo.heap.size ≤ q → vAll.ownBlock ≠ some q) := fun q hq => own_apart hP.own (.inr hq)
        clear hoA hvA hP hy hlow
        go_wp2_with fail
        refine (add_any g bs y a3 ly c3 _ hP3.hg hm3 hap3 (by omega) ht3 (by omega)).mono ?_
        rintro e w4 ⟨rfl, hash4, hbut4⟩
        have hP4 := hP3.add hbut4 hash4 hNB (by omega) hg1 (by omega)
        have hown4 := owns_but hown3 hbut4 (own_apart hown3 (.inl (by omega)))
        clear hP3 hown3 hm3 ht3 hash4 hbut4 hb3
        generalize hWO : wo.heap.size = Z at hown4 HOA hwoB
        clear hWO
        go_wp2
        go_loopw [9] (fun i w5 => ∃ (j : Nat) (xs : List Value), j ≤ ly ∧ i = .int .i64 j ∧ w5.ownsRow Z 5 1 (.slice a3 ly c3) ly xs ∧ PT N B g g2 (bs ++ y) bs vAll w w5) (fun i _ => ly - (intOf i).toNat)
        case atStart => exact ⟨0, _, Nat.zero_le _, rfl, hown4, hP4⟩
        case round =>
          clear hown4 hP4
          obtain ⟨j, xs, hj, rfl, hown, hP⟩ := hrel
          by_cases hjl : j < ly
          · obtain ⟨gm, cm, e3, hgm, hgm'⟩ := owns_form hown (by omega)
            cases e3
            obtain ⟨c0, hc0⟩ := owns_cell hown j hjl
            have hf := hown.frozenAt j
            have hst := hown.stored j (.int .u8 9)
            have hP5 := hP.but ((But.refl gm wr).setCell j (.int .u8 9)) hNB (by omega) (by omega) (by omega) (HOA.out gm hgm)
            clear hown hP
            go_wp2
            go_roundw
            case rel => exact ⟨j + 1, _, by omega, by go_num, hst.1, hP5⟩
            case measure => simp [intOf]; omega
          · clear hown
            obtain ⟨i0, hi, hz0, hz1, hz2⟩ := info_parts Tryd.info5
            have hYr := hYw.out.below (show Below w.heap.size w wr by rw [← HN.out]; exact hP.low)
            obtain ⟨bs2, hbs2⟩ : ∃ bs2, bs2 = bs ++ y := ⟨_, rfl⟩
            have hb2l : bs2.length = bs.length + ly := by rw [hbs2, List.length_append, hyl]
            have hb2 : bs2.length ≤ 300 * (k + 1) := by omega
            have hb2b : Byt bs2 := by rw [hbs2]; exact hbb.append hyb
            have HB2 : Hid (bs2 = bs ++ y) := hbs2
            rw [← hbs2] at hP
            clear hbs2
            cases ai with
            | none =>
              have hci := hYr.nil rfl
              have hlc := hYr.le_cap
              have hl0 : ly = 0 := by omega
              have hy0 : y = [] := List.eq_nil_of_length_eq_zero (by omega)
              have hbe : bs = bs2 := by rw [HB2.out, hy0, List.append_nil]
              have hP6 : PT N B g g2 bs2 bs2 vAll w wr := by rw [hbe] at hP; exact hP
              have hown6 := hP6.own
              obtain ⟨w6, hw6⟩ : ∃ w6, w6 = wr := ⟨_, rfl⟩
              subst hw6
              subst hci
              subst hl0
              clear hP hYr hYw hbe hy0 hyl HB2 hlc hj hjl hly hb2l
              go_wp2_with (at_builtin; refine wpList_append_own_none rfl _ _ 22 rfl B 5 i0 1 Tryd.underlying22 hi _ _ _ rfl hown6 rfl ?_)
              clear hown6 hi hz0 hz1 hz2
              obtain ⟨aA, cA, rfl, hmA⟩ := Bts.of_owns hP6.own hb2b
              have ht6 : Tab w6 := htab.below (by rw [← HN.out]; exact hP6.low)
              go_wp2_with fail
              refine (count_any g bs2 _ hP6.hg).mono ?_
              rintro e w' ⟨rfl, rfl⟩
              go_wp2_with fail
              refine (hsum_any g bs2 _ hP6.hg ht6 (by omega)).mono ?_
              rintro e w7 ⟨rfl, hb7⟩
              have hP7 := hP6.below hb7 hNB
              have hm7 := hmA.below hb7
              clear hP6 hmA hb7 ht6
              go_wp2_with fail
              refine (refsum_any _ _ _ bs2 _ hm7 (by omega)).mono ?_
              rintro e w8 ⟨rfl, hb8⟩
              have hP8 := hP7.below hb8 hNB
              have heq := dig_eq (sumL bs2) (sumL_length bs2)
              clear hP7 hm7 hb8
              generalize (bv (sumL bs2)).toArray = D at heq ⊢
              go_wp2
              go_roundw
              case rel => exact ⟨k + 1, bs2, by omega, by go_num, hb2, hb2b, hP8⟩
              case measure => simp [intOf]; omega
            | some ad =>
              have hcells := hYr.cells
              have hlc0 : (bv y).length = ly * 1 := by rw [bv_length, hyl]; omega
              go_wp2_with (at_builtin; refine wpList_append_own _ rfl _ _ 22 rfl B 5 i0 (.int .u8 0) 1 1 Tryd.underlying22 hi hz0 hz1 hz2 rfl (by decide) _ _ _ rfl hP.own ad ly ci (bv y) rfl hlc0 hcells (bv_one y) (by unfold maxLen; omega) (by omega) hP.size ?_)
              intro v' w6 hown6 hgrow _
              rw [← bv_append, ← HB2.out, ← hb2l] at hown6
              have hP6 := hP.grow hgrow hown6 hNB (by omega) hg2B
              clear hP hYr hYw hown6 hgrow hcells hlc0 hi hz0 hz1 hz2 HB2 hyl hb2l
              obtain ⟨aA, cA, rfl, hmA⟩ := Bts.of_owns hP6.own hb2b
              have ht6 : Tab w6 := htab.below (by rw [← HN.out]; exact hP6.low)
              go_wp2_with fail
              refine (count_any g bs2 _ hP6.hg).mono ?_
              rintro e w' ⟨rfl, rfl⟩
              go_wp2_with fail
              refine (hsum_any g bs2 _ hP6.hg ht6 (by omega)).mono ?_
              rintro e w7 ⟨rfl, hb7⟩
              have hP7 := hP6.below hb7 hNB
              have hm7 := hmA.below hb7
              clear hP6 hmA hb7 ht6
              go_wp2_with fail
              refine (refsum_any _ _ _ bs2 _ hm7 (by omega)).mono ?_
              rintro e w8 ⟨rfl, hb8⟩
              have hP8 := hP7.below hb8 hNB
              have heq := dig_eq (sumL bs2) (sumL_length bs2)
              clear hP7 hm7 hb8
              generalize (bv (sumL bs2)).toArray = D at heq ⊢
              go_wp2
              go_roundw
              case rel => exact ⟨k + 1, bs2, by omega, by go_num, hb2, hb2b, hP8⟩
              case measure => simp [intOf]; omega
      · have ht : Tab wo := htab.below hlow
        go_wp2_with fail
        refine (count_any g2 [] _ hP.ho).mono ?_
        rintro e w' ⟨rfl, rfl⟩
        go_wp2_with fail
        refine (hsum_any g2 [] _ hP.ho ht (by decide)).mono ?_
        rintro e w7 ⟨rfl, hb7⟩
        have hlow7 := hlow.trans (hb7.mono hlow.size)
        go_wp2_with fail
        refine (refsum_any none 0 0 [] _ (Bts.none rfl) (by decide)).mono ?_
        rintro e w8 ⟨rfl, hb8⟩
        have hlow8 := hlow7.trans (hb8.mono hlow7.size)
        have heq := dig_eq (sumL []) (sumL_length [])
        generalize (bv (sumL [])).toArray = D at heq ⊢
        have ht8 := htab.below hlow8
        clear hlow7 hb7 hb8 hP hlow ht
        go_wp2_with fail
        refine (lives_any _ ht8).mono ?_
        rintro e w9 ⟨rfl, hb9⟩
        go_wp2
        go_ret
        exact ⟨rfl, hlow8.trans (hb9.mono hlow8.size)⟩

/-- what the walk gives, for every argument and every world that holds the table -/
theorem contract (H : Type) (enc : TypeId × Value → H) (W : World) (base : Nat) (args : Array Value) (ds gs : List (DataW H)) (before : List MemPlace)
    (hval0 : ∀ (j : Nat) t v, Tryd.f6.params[j]? = some t → args[j]? = some v → Value.okWide Tryd.prog W .any base t v)
    (hW : DataW.Whole enc Tryd.prog Tryd.f6.params.toList Rows.shaPartsSpec.vars false W args.toList ds gs before) (hL : laidMetH Tryd.prog Rows.shaPartsRow.laid W) :
    Calls Tryd.prog 6 args W fun e W' => ∃ v, e = .returned v ∧ Rows.shaPartsSpec.post enc Tryd.prog Tryd.f6 false true false false W args v W' := by
  have htab := tab_of_laid hL
  have hval : ∀ (j : Nat) t v, Tryd.f6.params[j]? = some t → args[j]? = some v → Value.okWide Tryd.prog W .any base t v := hval0
  have hW' := hW
  obtain ⟨p, q, hA0, hV, rfl, hfz, hnd⟩ := hW
  have hA : DataW.TrodAll enc Tryd.prog W 0 (fun _ => true) true Tryd.f6.params.toList args.toList ds p := hA0
  rw [Tryd.params6] at hA hval
  obtain ⟨v0, vs0, d0, ds0, p0, q0, hargs, rfl, rfl, h0, r0⟩ := trodAll_cons hA
  obtain ⟨rfl, rfl, rfl⟩ := trodAll_nil r0
  obtain rfl : args = #[v0] := by cases args; simp_all
  obtain ⟨rfl, rfl⟩ := trodVars_none hV
  obtain ⟨a0, len0, cap0, rfl⟩ := okWide_slice Tryd.underlying40 (hval 0 40 v0 rfl rfl)
  have k0 := h0
  have lt0 : ∀ x ∈ p0, x.block < W.heap.size := by obtain ⟨m, hm⟩ := k0; exact DataW.trod_lt m _ _ _ hm
  have hLst : Lst W a0 len0 cap0 := by
    obtain ⟨fuel, hf⟩ := h0
    rcases Deep.open_slice1 Tryd.underlying40 (by kernel_rfl) hf with ⟨hcs, _⟩ | ⟨a, l, c, m, n, V, D, Pl, hcs, _, hl, hm, hmm, _, hel⟩
    · simp [Value.cells] at hcs
      obtain ⟨rfl, rfl, rfl⟩ := hcs
      exact ⟨Nat.le_refl _, Nat.zero_le _, fun hp => absurd hp (Nat.lt_irrefl _)⟩
    · simp [Value.cells] at hcs
      obtain ⟨rfl, rfl, rfl⟩ := hcs
      refine ⟨hl, hm, fun hp => ?_⟩
      obtain ⟨b, off, sp⟩ := a
      have hmm' : m = cap0 := by simpa using hmm
      have h00 := (hel 0 (by omega)).1
      have hsp : sp = none := by simpa [Addr.add] using World.cell?_spot h00
      subst hsp
      refine ⟨b, off, rfl, by have := World.block_lt_of_cell? W _ h00; simpa [Addr.add] using this, fun i hi => ?_⟩
      obtain ⟨e1, e2⟩ := hel i (by omega)
      rw [Addr.add_lit] at e1
      rcases open_ints Tryd.underlying22 Tryd.underlying5 (by kernel_rfl) e2 with ⟨hcs, _⟩ | ⟨x, l2, c2, zs, hcs, _, hl2, hm2, hz2, _, hcell, hwz⟩
      · have hVi : V i = .slice none 0 0 := by simpa using hcs
        exact ⟨none, 0, 0, _, by rw [e1, hVi], Bts.of_row (zs := []) (.inl ⟨rfl, rfl, rfl, rfl⟩)⟩
      · have hVi : V i = .slice (some x) l2 c2 := by simpa using hcs
        exact ⟨some x, l2, c2, _, by rw [e1, hVi], Bts.of_row (.inr ⟨x, rfl, hl2, hm2, by simpa using hz2, hcell, hwz⟩)⟩
  clear hA0 hval0
  refine (walk a0 len0 cap0 W hLst htab).mono fun e W' ⟨he, bel⟩ => ?_
  subst he
  exact ⟨_, rfl, _, _, _, [], _, [], hW', trodAll_mk1 (shut_bool Tryd.underlying4 _), (trodAll_cons_mk (Below.trod laidOut (by kernel_rfl) (of_decide_eq_true (by kernel_rfl)) k0 bel lt0) trodAll_mk0), rfl, bel.frame _, fun h => by cases h⟩

set_option maxRecDepth 100000 in
theorem laid_met (os : Os) : laidMet Tryd.prog Rows.shaPartsRow.laid (({ World.holding Tryd.prog os ⟨#[], #[], []⟩ with heap := (World.holding Tryd.prog os ⟨#[], #[], []⟩).heap.setIfInBounds 0 (.cells (uv keyL).toArray 53) } : World).forCall (fun _ _ => 0) ⟨#[], #[.slice none 0 0], []⟩).memory :=
  laidMet_of_run' 8 (by kernel_rfl) (by kernel_rfl)
theorem reads (os : Os) {H : Type} (enc : TypeId × Value → H) : ∃ places, DataW.whole enc Tryd.prog (({ World.holding Tryd.prog os ⟨#[], #[], []⟩ with heap := (World.holding Tryd.prog os ⟨#[], #[], []⟩).heap.setIfInBounds 0 (.cells (uv keyL).toArray 53) } : World).forCall (fun _ _ => 0) ⟨#[], #[.slice none 0 0], []⟩).memory Tryd.f6.params.toList Rows.shaPartsSpec.vars false (#[.slice none 0 0] : Array Value).toList 8 = some ([.nil], [], places) :=
  ⟨[], by kernel_rfl⟩
set_option maxRecDepth 100000 in
theorem lifted (os : Os) (started : os.Started) (H : Type) (enc : TypeId × Value → H) (F : Stop.Interp) :
    ReturnsInHanded {} Tryd.checked os 6 .any ((OpenSpec.ofChange Rows.shaPartsSpec).preRow enc Tryd.prog Tryd.f6 Rows.shaPartsRow.domain false Rows.shaPartsRow.laid) (((OpenSpec.ofChange Rows.shaPartsSpec).at F).post enc Tryd.prog Tryd.f6 false true false false) := by
  obtain ⟨places, hx⟩ := reads os enc
  refine returnsInHanded_of_row (C := Tryd.checked) (s := OpenSpec.ofChange Rows.shaPartsSpec) own started (by kernel_rfl) Tryd.func6
    (witness_row_at (enc := enc) (C := Tryd.checked) false ({ World.holding Tryd.prog os ⟨#[], #[], []⟩ with heap := (World.holding Tryd.prog os ⟨#[], #[], []⟩).heap.setIfInBounds 0 (.cells (uv keyL).toArray 53) } : World) #[.slice none 0 0] rfl (by kernel_rfl) (by kernel_rfl) (by kernel_rfl)
      (OpenSpec.preRow_of_cond 8 hx (by kernel_rfl) (fun k hk => by cases hk) (by kernel_rfl) (laid_met os))) ?_
  intro W base args ds gs before hval hW _ _ _ hL _ _
  exact contract H enc W base args ds gs before hval hW hL
theorem said : Rows.ShaPartsSaid :=
  OpenClaim.holds_of_cond 6 Tryd.f6 rfl rfl rfl rfl rfl rfl rfl ⟨rfl, rfl, rfl, rfl, rfl⟩ rfl rfl rfl rfl rfl (by kernel_rfl) Tryd.func6 (by kernel_rfl)
    (of_decide_eq_true (by kernel_rfl)) (by unfold Func.isWrapper; first | (rw [if_pos (by decide +kernel)]; kernel_rfl) | (rw [if_neg (by decide +kernel)]; exact ⟨rfl, rfl⟩))
    (fun os started H enc _ F => by rw [OpenClaim.pre_eq_preRow]; exact lifted os started H enc F)
theorem plain (f : FuncId) (fn : Func) (hf : Tryd.pinned.checked.prog.funcNamed "inquest/inquestlaw02.ShaParts" = some f) (hfn : Tryd.pinned.checked.prog.funcs[f]? = some fn) :
    false = Tryd.pinned.checked.prog.looks [] ∧ ∀ (j : Nat) t, fn.params[j]? = some t → Tryd.pinned.checked.prog.wantsStandIn t = false := by
  obtain rfl : f = 6 := Option.some.inj ((show Tryd.prog.funcNamed "inquest/inquestlaw02.ShaParts" = some 6 by kernel_rfl).symm.trans hf) |>.symm
  obtain rfl : fn = Tryd.f6 := (Option.some.inj (Tryd.func6.symm.trans hfn)).symm
  refine ⟨by kernel_rfl, fun j t ht => ?_⟩
  rw [Tryd.params6] at ht
  have hall : ([40].all fun u => !Tryd.prog.wantsStandIn u) = true := by kernel_rfl
  have hm : t ∈ [40] := by simpa using Array.mem_of_getElem? ht
  exact (show Tryd.prog.wantsStandIn t = false by simpa using List.all_eq_true.1 hall t hm)
/-- the tied card -/
theorem card : Rows.ShaPartsCardSaid :=
  Claim7.holds_tied_plain_at .later [] _ _ _ _ said (fun _ h => by cases h) (by kernel_rfl) (fun _ h => by cases h) shaParts_row_tie rfl ⟨rfl, rfl⟩ (by kernel_rfl) rfl plain (by kernel_rfl)
end Go.Proofs.YtegcoilkdnmhoaaDoor.shaParts
namespace Go.Proofs.YtegcoilkdnmhoaaDoor
theorem shaParts_holds : Rows.ShaPartsCardSaid := shaParts.card
#print axioms shaParts_holds
end Go.Proofs.YtegcoilkdnmhoaaDoor
