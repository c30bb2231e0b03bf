/- For every three slices of bytes, every int and every byte the law MacChecks returns true and the slices read as they did (P3.2): of keys and texts of up to 1000 bytes each just the sum is taken, each byte of it. The package's table is as the program's text lays it (the card ties it). -/
import Derived.Test.YtglndmkfkmkngaaDoorDoor
import Derived.Test.YtglndmkfkmkngaaDoorMacCheck
import Derived.Test.YtglndmkfkmkngaaDoorRefHmac
import Derived.Test.YtglndmkfkmkngaaDoorLeast
import Derived.Test.YtglndmkfkmkngaaDoorCut
import Derived.Test.YtglndmkfkmkngaaDoorSame
import Derived.WalkKit
import Derived.ShutString
import Derived.ChangeOld
import Derived.Below
namespace Go.Proofs.YtglndmkfkmkngaaDoor.macChecks
open Go.ChangeShapes Go.WideShapes Go.ChangeAt Go.RowKit
open Go.ChangeMaps (open_string shut_string)
set_option linter.unusedVariables false

theorem laidOut : laidOutB Tryd.prog = true := by kernel_rfl

/-- WHAT THE WALK IS TOLD OF A SLICE OF INTEGERS THAT CAME IN: it is nil; or it leads to a row of 'cap' cells, the numbers 'zs' (the first 'len' are its elements, the rest its spare room), each fitting its kind. -/
def IsRow (k : IntKind) (w : World) (a : Option Addr) (len cap : Nat) (zs : List Int) : Prop :=
  (a = none ∧ len = 0 ∧ cap = 0 ∧ zs = []) ∨
  ∃ x, a = some x ∧ len ≤ cap ∧ cap ≤ maxLen ∧ zs.length = cap ∧ (∀ i, i < zs.length → w.cell? (x.add i) = some (.int k (zs.getD i 0))) ∧ ∀ n ∈ zs, (Lit.int k n).wf = true


/-- what holds all along: the key, the text, what is held against the sum, the sum in its variable -/
structure CK (a0 a1 a2 : Option Addr) (n0 n1 n2 c0 c1 c2 Q : Nat) (k t s m : List Int) (w wr : World) : Prop where
  tab : Tab wr
  key : Bts wr a0 n0 c0 k
  txt : Bts wr a1 n1 c1 t
  sum : Bts wr a2 n2 c2 s
  row : wr.heap[Q]? = some (.cells (bv m).toArray 26 (0, 0))
  low : Below w.heap.size w wr
theorem CK.step {a0 a1 a2 : Option Addr} {n0 n1 n2 c0 c1 c2 Q : Nat} {k t s m : List Int} {w wr w1 : World} (h : CK a0 a1 a2 n0 n1 n2 c0 c1 c2 Q k t s m w wr) (hb : Below wr.heap.size wr w1) : CK a0 a1 a2 n0 n1 n2 c0 c1 c2 Q k t s m w w1 :=
  ⟨h.tab.below hb, h.key.below hb, h.txt.below hb, h.sum.below hb, by rw [hb.block _ (Array.getElem?_eq_some_iff.1 h.row).1]; exact h.row, bstep h.low hb⟩
theorem CK.drewN {a0 a1 a2 : Option Addr} {n0 n1 n2 c0 c1 c2 Q : Nat} {k t s m : List Int} {w wr : World} (h : CK a0 a1 a2 n0 n1 n2 c0 c1 c2 Q k t s m w wr) (q : Nat) : CK a0 a1 a2 n0 n1 n2 c0 c1 c2 Q k t s m w (wr.drewN q) :=
  ⟨h.tab.drewN q, h.key.drewN q, h.txt.drewN q, h.sum.drewN q, h.row, below_drewN h.low q⟩
theorem CK.dig {a0 a1 a2 : Option Addr} {n0 n1 n2 c0 c1 c2 Q : Nat} {k t s m : List Int} {w wr : World} (h : CK a0 a1 a2 n0 n1 n2 c0 c1 c2 Q k t s m w wr) (hb : Byt m) (hl : m.length = 32) : Bts wr (some ⟨Q, 0, none⟩) 32 32 m := bts_cells h.row hb hl (by unfold maxLen; omega)
theorem ck_setCell {w : World} {g : Nat} {ao : Option Addr} {len cap : Nat} {l : List Int} (h : Bts w ao len cap l) (hg : 0 < len → ∀ p, ao = some p → p.block ≠ g) (j : Nat) (v : Value) : Bts (w.setCell ⟨g, j, none⟩ v) ao len cap l :=
  h.but ((But.refl g w).setCell j v) hg
theorem set_eq (m : List Int) (j : Nat) (y z : Int) (hj : j < m.length) (hy : m.getD j 0 = y) : m.set j z = m ↔ z = y := by
  constructor
  · intro h
    have h1 : (m.set j z).getD j 0 = z := by rw [List.getD_eq_getElem?_getD, List.getElem?_set_self hj]; rfl
    rw [h, hy] at h1; exact h1.symm
  · intro h; rw [h, ← hy, List.getD_eq_getElem?_getD, List.getElem?_eq_getElem hj]; simp
theorem xr_self_iff {y b : Int} (hy : 0 ≤ y) (hb : 0 ≤ b) : xr y b = y ↔ b = 0 := by
  unfold xr
  constructor
  · intro h
    have h1 : y.toNat ^^^ b.toNat = y.toNat := by omega
    have h2 : y.toNat ^^^ (y.toNat ^^^ b.toNat) = y.toNat ^^^ y.toNat := by rw [h1]
    rw [← Nat.xor_assoc, Nat.xor_self, Nat.zero_xor] at h2
    omega
  · intro h; subst h; simp; omega
theorem bv_set (m : List Int) (j : Nat) (z : Int) : (bv m).toArray.setIfInBounds j (.int .u8 z) = (bv (m.set j z)).toArray := by
  rw [List.setIfInBounds_toArray]; congr 1; simp [bv, List.map_set]
theorem byt_set {m : List Int} (h : Byt m) (j : Nat) {z : Int} (hz : 0 ≤ z ∧ z ≤ 255) : Byt (m.set j z) := by
  intro c hc
  rcases List.mem_or_eq_of_mem_set hc with h1 | h1
  · exact h c h1
  · rw [h1]; exact hz

set_option maxRecDepth 100000 in
set_option maxHeartbeats 1000000 in
theorem walk (a0 : Option Addr) (len0 cap0 : Nat) (z0 : List Int) (a1 : Option Addr) (len1 cap1 : Nat) (z1 : List Int) (a2 : Option Addr) (len2 cap2 : Nat) (z2 : List Int) (a3 : Int) (a4 : Int) (w : World) (w0 : IsRow .u8 w a0 len0 cap0 z0) (w1 : IsRow .u8 w a1 len1 cap1 z1) (w2 : IsRow .u8 w a2 len2 cap2 z2) (w3 : (Lit.int .i64 a3).wf = true) (w4 : (Lit.int .u8 a4).wf = true) (htab : Tab w) :
    Calls Tryd.prog 4 #[.slice a0 len0 cap0, .slice a1 len1 cap1, .slice a2 len2 cap2, .int .i64 a3, .int .u8 a4] w fun e w' => e = .returned (.bool true) ∧ Below w.heap.size w w' := by
  have r0 : Bts w a0 len0 cap0 (z0.take len0) := Bts.of_row w0
  have r1 : Bts w a1 len1 cap1 (z1.take len1) := Bts.of_row w1
  have r2 : Bts w a2 len2 cap2 (z2.take len2) := Bts.of_row w2
  have hby4 : 0 ≤ a4 ∧ a4 ≤ 255 := bounds_u8 w4
  generalize z0.take len0 = l0 at r0
  generalize z1.take len1 = l1 at r1
  generalize z2.take len2 = l2 at r2
  clear w0 w1 w2 w4
  go_enter Tryd.func4, Tryd.ntmps4
  go_wp2_with fail
  refine (cut_any a0 len0 cap0 1000 l0 _ r0 (by decide)).mono ?_
  rintro e w' ⟨⟨n0, rfl, h0⟩, rfl⟩
  go_wp2_with fail
  refine (cut_any a1 len1 cap1 1000 l1 _ r1 (by decide)).mono ?_
  rintro e w' ⟨⟨n1, rfl, h1⟩, rfl⟩
  go_wp2_with fail
  refine (cut_any a2 len2 cap2 100 l2 _ r2 (by decide)).mono ?_
  rintro e w' ⟨⟨n2, rfl, h2⟩, rfl⟩
  have hn0 : n0 ≤ 1000 := by have := h0.len_eq; rw [List.length_take] at this; omega
  have hn1 : n1 ≤ 1000 := by have := h1.len_eq; rw [List.length_take] at this; omega
  generalize l0.take 1000 = k at h0
  generalize l1.take 1000 = t at h1
  generalize l2.take 100 = s at h2
  clear r0 r1 r2
  go_wp2_with fail
  refine (refmac_any _ _ _ _ _ _ k t _ h0 h1 (by omega) (by omega)).mono ?_
  rintro e w1 ⟨rfl, hb1⟩
  have hl := macL_len k t
  have hby := macL_byt k t
  generalize hm : macL k t = m at hl hby ⊢
  have HM : Bx (macL k t = m) := ⟨hm⟩
  clear hm
  generalize hDD : (bv m).toArray = D
  obtain ⟨hdv, hth, hinf, hone⟩ := dig_var w1 m hl D hDD.symm
  have HTH : Bx ((w1.alloc (.cells #[.int .u8 0, .int .u8 0, .int .u8 0, .int .u8 0, .int .u8 0, .int .u8 0, .int .u8 0, .int .u8 0, .int .u8 0, .int .u8 0, .int .u8 0, .int .u8 0, .int .u8 0, .int .u8 0, .int .u8 0, .int .u8 0, .int .u8 0, .int .u8 0, .int .u8 0, .int .u8 0, .int .u8 0, .int .u8 0, .int .u8 0, .int .u8 0, .int .u8 0, .int .u8 0, .int .u8 0, .int .u8 0, .int .u8 0, .int .u8 0, .int .u8 0, .int .u8 0] 26)).there w1.heap.size 0 D.size) := ⟨hth⟩
  have HCK : Bx (CK a0 a1 a2 n0 n1 n2 cap0 cap1 cap2 w1.heap.size k t s m w ((w1.alloc (.cells #[.int .u8 0, .int .u8 0, .int .u8 0, .int .u8 0, .int .u8 0, .int .u8 0, .int .u8 0, .int .u8 0, .int .u8 0, .int .u8 0, .int .u8 0, .int .u8 0, .int .u8 0, .int .u8 0, .int .u8 0, .int .u8 0, .int .u8 0, .int .u8 0, .int .u8 0, .int .u8 0, .int .u8 0, .int .u8 0, .int .u8 0, .int .u8 0, .int .u8 0, .int .u8 0, .int .u8 0, .int .u8 0, .int .u8 0, .int .u8 0, .int .u8 0, .int .u8 0] 26)).setCells w1.heap.size 0 D.toList)) :=
    ⟨⟨(htab.below hb1).below hdv.low, (h0.below hb1).below hdv.low, (h1.below hb1).below hdv.low, (h2.below hb1).below hdv.low, hdv.row, bstep hb1 hdv.low⟩⟩
  have HINF : Bx ((Tryd.prog.info? 26).map (·.size) = some D.size) := ⟨hinf⟩
  have HONE : Bx (D.all (·.oneCell') = true) := ⟨hone⟩
  have hda := dig_all w1.heap.size
  have hQ := hb1.size
  have hpos := htab.pos
  have hp0 := apart_of h0 (g := w1.heap.size) hQ
  have hp1 := apart_of h1 (g := w1.heap.size) hQ
  clear hdv hth hinf hone hDD h0 h1 h2 hb1 htab
  go_wp2_with (refine wpList_store_mid rfl 26 (.tmp 11) (.tmp 20) rfl w1.heap.size 0 D rfl rfl HTH.out HINF.out HONE.out ?_; have hck := HCK.out; generalize (w1.alloc (.cells #[.int .u8 0, .int .u8 0, .int .u8 0, .int .u8 0, .int .u8 0, .int .u8 0, .int .u8 0, .int .u8 0, .int .u8 0, .int .u8 0, .int .u8 0, .int .u8 0, .int .u8 0, .int .u8 0, .int .u8 0, .int .u8 0, .int .u8 0, .int .u8 0, .int .u8 0, .int .u8 0, .int .u8 0, .int .u8 0, .int .u8 0, .int .u8 0, .int .u8 0, .int .u8 0, .int .u8 0, .int .u8 0, .int .u8 0, .int .u8 0, .int .u8 0, .int .u8 0] 26)).setCells w1.heap.size 0 D.toList = w2 at hck ⊢; clear HCK HTH HINF HONE)
  generalize w1.heap.size = Q at hck hda hQ hp0 hp1 ⊢
  obtain ⟨r, hr⟩ : ∃ r, r = decide (s = m) := ⟨_, rfl⟩
  have HC : Bx (∀ w' v x, (v = .slice a2 n2 cap2 ∧ x = r) ∨ (v = .slice (some ⟨Q, 0, none⟩) 32 32 ∧ x = true) → CK a0 a1 a2 n0 n1 n2 cap0 cap1 cap2 Q k t s m w w' → Calls Tryd.prog 15 #[.slice a0 n0 cap0, .slice a1 n1 cap1, v] w' fun e w'' => e = .returned (.bool x) ∧ Below w'.heap.size w' w'') := ⟨fun w' v x hv h => by
    rcases hv with ⟨rfl, rfl⟩ | ⟨rfl, rfl⟩
    · rw [hr, ← HM.out]; exact check_any _ _ _ _ _ _ _ _ _ k t s _ h.key h.txt h.sum h.tab (by omega) (by omega)
    · have hc := check_any _ _ _ _ _ _ _ _ _ k t m w' h.key h.txt (h.dig hby hl) h.tab (by omega) (by omega)
      rw [HM.out, show decide (m = m) = true from by simp] at hc
      exact hc⟩
  have HS : Bx (∀ w', CK a0 a1 a2 n0 n1 n2 cap0 cap1 cap2 Q k t s m w w' → Calls Tryd.prog 13 #[.slice a2 n2 cap2, .slice (some ⟨Q, 0, none⟩) 32 32] w' fun e w'' => e = .returned (.bool r) ∧ Below w'.heap.size w' w'') := ⟨fun w' h => by
    refine (same_any _ _ _ _ _ _ s m w' h.sum (h.dig hby hl)).mono ?_
    rintro e w'' ⟨rfl, q, rfl⟩
    exact ⟨ret_bool hr.symm, below_drewN (Below.refl _ _) q⟩⟩
  have hne : (r != r) = false := by simp
  have hl0 := hck.drewN 1
  clear hr
  go_region_held3 (fun w' => CK a0 a1 a2 n0 n1 n2 cap0 cap1 cap2 Q k t s m w w') (first | (exact hl0) | (exact CK.step (by assumption) hb5)) (first | (go_at_call 15; refine (HC.out _ _ _ (by first | exact .inl ⟨rfl, rfl⟩ | exact .inr ⟨rfl, rfl⟩) (by assumption)).mono ?_; rintro e5 w5 ⟨rfl, hb5⟩) | (go_at_call 13; refine (HS.out _ (by assumption)).mono ?_; rintro e5 w5 ⟨rfl, hb5⟩))
  rename_i hHeld
  clear hl0 hb5 hck HC HS hne
  go_wp2_with fail
  obtain ⟨j, hj, hjl⟩ : ∃ j : Nat, leastV a3 0 31 = (j : Int) ∧ j < 32 := by
    refine ⟨(leastV a3 0 31).toNat, ?_, ?_⟩ <;> unfold leastV <;> split <;> (try split) <;> omega
  refine (least_any _ _ _ _).mono ?_
  rintro e w' ⟨rfl, rfl⟩
  rw [hj]
  clear hj
  have hcell := bv_cell hHeld.row j (by omega)
  have hfr := frozen_of_row _ _ j _ _ hHeld.row
  have hy := hby.getD j
  have hxe := xr8_eq hy hby4
  have hxb := xr_b hy hby4
  have hrow6 := heap_setCell_same w5 Q j _ _ (.int .u8 (xr (m.getD j 0) a4)) hHeld.row
  rw [bv_set] at hrow6
  have HD : Bx (decide (m.set j (xr (m.getD j 0) a4) = m) = decide (a4 = 0)) := ⟨by
    rw [decide_eq_decide, set_eq m j _ _ (by omega) rfl, xr_self_iff hy.1 hby4.1]⟩
  have hdb := byt_set hby j hxb
  have hdl : (m.set j (xr (m.getD j 0) a4)).length = 32 := by rw [List.length_set, hl]
  have h06 := ck_setCell hHeld.key hp0 j (.int .u8 (xr (m.getD j 0) a4))
  have h16 := ck_setCell hHeld.txt hp1 j (.int .u8 (xr (m.getD j 0) a4))
  have ht6 := hHeld.tab.but ((But.refl Q w5).setCell j (.int .u8 (xr (m.getD j 0) a4))) (by omega)
  have hlow6 := hHeld.low.setCell (p := ⟨Q, j, none⟩) hQ (.int .u8 (xr (m.getD j 0) a4))
  generalize m.set j (xr (m.getD j 0) a4) = m' at hrow6 HD hdb hdl
  generalize m.getD j 0 = y at hcell hy hxe hxb hrow6 h06 h16 ht6 hlow6
  generalize xr y a4 = z at hxe hxb hrow6 h06 h16 ht6 hlow6
  clear hHeld hp0 hp1
  have j0 : (0 : Int) ≤ (j : Int) := by omega
  have j32 : (j : Int) < 32 := by omega
  have hda2 := dig_all Q
  go_wp2_with fail
  generalize w5.setCell ⟨Q, j, none⟩ (.int .u8 z) = w6 at hrow6 h06 h16 ht6 hlow6 ⊢
  have hd6 := bts_cells hrow6 hdb hdl (by unfold maxLen; omega)
  refine (check_any _ _ _ _ _ _ _ _ _ k t m' _ h06 h16 hd6 ht6 (by omega) (by omega)).mono ?_
  rintro e w7 ⟨rfl, hb7⟩
  rw [HM.out, HD.out]
  have ht7 := ht6.below hb7
  have hlow7 := bstep hlow6 hb7
  clear hd6 h06 h16 hrow6 ht6 hlow6 hb7 hcell hfr
  have hq : (decide (a4 = 0) == (a4 == 0)) = true := by by_cases h : a4 = 0 <;> simp [h]
  have hq2 : (a4 == 0) = decide (a4 = 0) := by by_cases h : a4 = 0 <;> simp [h]
  have hq3 : (decide (a4 = 0) == decide (a4 = 0)) = true := by simp
  go_wp2_with fail
  refine (lives_any _ ht7).mono ?_
  rintro e w8 ⟨rfl, hb8⟩
  go_wp2
  go_ret
  exact ⟨rfl, bstep hlow7 hb8⟩

/-- what the walk gives, for every argument and every world that holds the table -/
theorem contract (H : Type) (enc : TypeId × Value → H) (W : World) (base : Nat) (args : Array Value) (ds gs : List (DataW H)) (before : List MemPlace)
    (hval0 : ∀ (j : Nat) t v, Tryd.f4.params[j]? = some t → args[j]? = some v → Value.okWide Tryd.prog W .any base t v)
    (hW : DataW.Whole enc Tryd.prog Tryd.f4.params.toList Rows.macChecksSpec.vars false W args.toList ds gs before) (hL : laidMetH Tryd.prog Rows.macChecksRow.laid W) :
    Calls Tryd.prog 4 args W fun e W' => ∃ v, e = .returned v ∧ Rows.macChecksSpec.post enc Tryd.prog Tryd.f4 false true false false W args v W' := by
  have htab := tab_of_laid hL
  have hval : ∀ (j : Nat) t v, Tryd.f4.params[j]? = some t → args[j]? = some v → Value.okWide Tryd.prog W .any base t v := hval0
  have hW' := hW
  obtain ⟨p, q, hA0, hV, rfl, hfz, hnd⟩ := hW
  have hA : DataW.TrodAll enc Tryd.prog W 0 (fun _ => true) true Tryd.f4.params.toList args.toList ds p := hA0
  rw [Tryd.params4] at hA hval
  obtain ⟨v0, vs0, d0, ds0, p0, q0, hargs, rfl, rfl, h0, r0⟩ := trodAll_cons hA
  obtain ⟨v1, vs1, d1, ds1, p1, q1, rfl, rfl, rfl, h1, r1⟩ := trodAll_cons r0
  obtain ⟨v2, vs2, d2, ds2, p2, q2, rfl, rfl, rfl, h2, r2⟩ := trodAll_cons r1
  obtain ⟨v3, vs3, d3, ds3, p3, q3, rfl, rfl, rfl, h3, r3⟩ := trodAll_cons r2
  obtain ⟨v4, vs4, d4, ds4, p4, q4, rfl, rfl, rfl, h4, r4⟩ := trodAll_cons r3
  obtain ⟨rfl, rfl, rfl⟩ := trodAll_nil r4
  obtain rfl : args = #[v0, v1, v2, v3, v4] := by cases args; simp_all
  obtain ⟨rfl, rfl⟩ := trodVars_none hV
  obtain ⟨a0, len0, cap0, rfl⟩ := okWide_slice Tryd.underlying22 (hval 0 22 v0 rfl rfl)
  have k0 := h0
  have lt0 : ∀ x ∈ p0, x.block < W.heap.size := by obtain ⟨m, hm⟩ := k0; exact DataW.trod_lt m _ _ _ hm
  obtain ⟨z0, w0⟩ : ∃ zs, IsRow .u8 W a0 len0 cap0 zs := by
    obtain ⟨fuel, hf⟩ := h0
    rcases open_ints Tryd.underlying22 Tryd.underlying5 (by kernel_rfl) hf with ⟨hcs, _⟩ | ⟨x, l, c, zs, hcs, _, hl, hm, hz, _, hcell, hwz⟩
    · simp [Value.cells] at hcs
      obtain ⟨rfl, rfl, rfl⟩ := hcs
      exact ⟨[], .inl ⟨rfl, rfl, rfl, rfl⟩⟩
    · simp [Value.cells] at hcs
      obtain ⟨rfl, rfl, rfl⟩ := hcs
      exact ⟨zs, .inr ⟨_, rfl, hl, hm, by simpa using hz, hcell, hwz⟩⟩
  obtain ⟨a1, len1, cap1, rfl⟩ := okWide_slice Tryd.underlying22 (hval 1 22 v1 rfl rfl)
  have k1 := h1
  have lt1 : ∀ x ∈ p1, x.block < W.heap.size := by obtain ⟨m, hm⟩ := k1; exact DataW.trod_lt m _ _ _ hm
  obtain ⟨z1, w1⟩ : ∃ zs, IsRow .u8 W a1 len1 cap1 zs := by
    obtain ⟨fuel, hf⟩ := h1
    rcases open_ints Tryd.underlying22 Tryd.underlying5 (by kernel_rfl) hf with ⟨hcs, _⟩ | ⟨x, l, c, zs, hcs, _, hl, hm, hz, _, hcell, hwz⟩
    · simp [Value.cells] at hcs
      obtain ⟨rfl, rfl, rfl⟩ := hcs
      exact ⟨[], .inl ⟨rfl, rfl, rfl, rfl⟩⟩
    · simp [Value.cells] at hcs
      obtain ⟨rfl, rfl, rfl⟩ := hcs
      exact ⟨zs, .inr ⟨_, rfl, hl, hm, by simpa using hz, hcell, hwz⟩⟩
  obtain ⟨a2, len2, cap2, rfl⟩ := okWide_slice Tryd.underlying22 (hval 2 22 v2 rfl rfl)
  have k2 := h2
  have lt2 : ∀ x ∈ p2, x.block < W.heap.size := by obtain ⟨m, hm⟩ := k2; exact DataW.trod_lt m _ _ _ hm
  obtain ⟨z2, w2⟩ : ∃ zs, IsRow .u8 W a2 len2 cap2 zs := by
    obtain ⟨fuel, hf⟩ := h2
    rcases open_ints Tryd.underlying22 Tryd.underlying5 (by kernel_rfl) hf with ⟨hcs, _⟩ | ⟨x, l, c, zs, hcs, _, hl, hm, hz, _, hcell, hwz⟩
    · simp [Value.cells] at hcs
      obtain ⟨rfl, rfl, rfl⟩ := hcs
      exact ⟨[], .inl ⟨rfl, rfl, rfl, rfl⟩⟩
    · simp [Value.cells] at hcs
      obtain ⟨rfl, rfl, rfl⟩ := hcs
      exact ⟨zs, .inr ⟨_, rfl, hl, hm, by simpa using hz, hcell, hwz⟩⟩
  obtain ⟨a3, rfl, rfl, rfl, w3⟩ := open_int Tryd.underlying3 (hval 3 3 v3 rfl rfl) h3
  obtain ⟨a4, rfl, rfl, rfl, w4⟩ := open_int Tryd.underlying5 (hval 4 5 v4 rfl rfl) h4
  clear hA0 hval0
  refine (walk a0 len0 cap0 z0 a1 len1 cap1 z1 a2 len2 cap2 z2 a3 a4 W w0 w1 w2 w3 w4 htab).mono fun e W' ⟨he, bel⟩ => ?_
  subst he
  exact ⟨_, rfl, _, _, _, [], _, [], hW', trodAll_mk1 (shut_bool Tryd.underlying4 _), (trodAll_cons_mk (Below.trod laidOut (by kernel_rfl) (of_decide_eq_true (by kernel_rfl)) k0 bel lt0) (trodAll_cons_mk (Below.trod laidOut (by kernel_rfl) (of_decide_eq_true (by kernel_rfl)) k1 bel lt1) (trodAll_cons_mk (Below.trod laidOut (by kernel_rfl) (of_decide_eq_true (by kernel_rfl)) k2 bel lt2) (trodAll_cons_mk (shut_int Tryd.underlying3 w3) (trodAll_cons_mk (shut_int Tryd.underlying5 w4) trodAll_mk0))))), rfl, bel.frame _, fun h => by cases h⟩

set_option maxRecDepth 100000 in
theorem laid_met (os : Os) : laidMet Tryd.prog Rows.macChecksRow.laid (({ World.holding Tryd.prog os ⟨#[], #[], []⟩ with heap := (World.holding Tryd.prog os ⟨#[], #[], []⟩).heap.setIfInBounds 0 (.cells (uv keyL).toArray 64) } : World).forCall (fun _ _ => 0) ⟨#[], #[.slice none 0 0, .slice none 0 0, .slice none 0 0, .int .i64 0, .int .u8 0], []⟩).memory :=
  laidMet_of_run' 8 (by kernel_rfl) (by kernel_rfl)
theorem reads (os : Os) {H : Type} (enc : TypeId × Value → H) : ∃ places, DataW.whole enc Tryd.prog (({ World.holding Tryd.prog os ⟨#[], #[], []⟩ with heap := (World.holding Tryd.prog os ⟨#[], #[], []⟩).heap.setIfInBounds 0 (.cells (uv keyL).toArray 64) } : World).forCall (fun _ _ => 0) ⟨#[], #[.slice none 0 0, .slice none 0 0, .slice none 0 0, .int .i64 0, .int .u8 0], []⟩).memory Tryd.f4.params.toList Rows.macChecksSpec.vars false (#[.slice none 0 0, .slice none 0 0, .slice none 0 0, .int .i64 0, .int .u8 0] : Array Value).toList 8 = some ([.nil, .nil, .nil, .lit (.int .i64 0), .lit (.int .u8 0)], [], places) :=
  ⟨[], by kernel_rfl⟩
set_option maxRecDepth 100000 in
theorem lifted (os : Os) (started : os.Started) (H : Type) (enc : TypeId × Value → H) (F : Stop.Interp) :
    ReturnsInHanded {} Tryd.checked os 4 .any ((OpenSpec.ofChange Rows.macChecksSpec).preRow enc Tryd.prog Tryd.f4 Rows.macChecksRow.domain false Rows.macChecksRow.laid) (((OpenSpec.ofChange Rows.macChecksSpec).at F).post enc Tryd.prog Tryd.f4 false true false false) := by
  obtain ⟨places, hx⟩ := reads os enc
  refine returnsInHanded_of_row (C := Tryd.checked) (s := OpenSpec.ofChange Rows.macChecksSpec) own started (by kernel_rfl) Tryd.func4
    (witness_row_at (enc := enc) (C := Tryd.checked) false ({ World.holding Tryd.prog os ⟨#[], #[], []⟩ with heap := (World.holding Tryd.prog os ⟨#[], #[], []⟩).heap.setIfInBounds 0 (.cells (uv keyL).toArray 64) } : World) #[.slice none 0 0, .slice none 0 0, .slice none 0 0, .int .i64 0, .int .u8 0] rfl (by kernel_rfl) (by kernel_rfl) (by kernel_rfl)
      (OpenSpec.preRow_of_cond 8 hx (by kernel_rfl) (fun k hk => by cases hk) (by kernel_rfl) (laid_met os))) ?_
  intro W base args ds gs before hval hW _ _ _ hL _ _
  exact contract H enc W base args ds gs before hval hW hL
theorem said : Rows.MacChecksSaid :=
  OpenClaim.holds_of_cond 4 Tryd.f4 rfl rfl rfl rfl rfl rfl rfl ⟨rfl, rfl, rfl, rfl, rfl⟩ rfl rfl rfl rfl rfl (by kernel_rfl) Tryd.func4 (by kernel_rfl)
    (of_decide_eq_true (by kernel_rfl)) (by unfold Func.isWrapper; first | (rw [if_pos (by decide +kernel)]; kernel_rfl) | (rw [if_neg (by decide +kernel)]; exact ⟨rfl, rfl⟩))
    (fun os started H enc _ F => by rw [OpenClaim.pre_eq_preRow]; exact lifted os started H enc F)
theorem plain (f : FuncId) (fn : Func) (hf : Tryd.pinned.checked.prog.funcNamed "inquest/inquestlaw03.MacChecks" = some f) (hfn : Tryd.pinned.checked.prog.funcs[f]? = some fn) :
    false = Tryd.pinned.checked.prog.looks [] ∧ ∀ (j : Nat) t, fn.params[j]? = some t → Tryd.pinned.checked.prog.wantsStandIn t = false := by
  obtain rfl : f = 4 := Option.some.inj ((show Tryd.prog.funcNamed "inquest/inquestlaw03.MacChecks" = some 4 by kernel_rfl).symm.trans hf) |>.symm
  obtain rfl : fn = Tryd.f4 := (Option.some.inj (Tryd.func4.symm.trans hfn)).symm
  refine ⟨by kernel_rfl, fun j t ht => ?_⟩
  rw [Tryd.params4] at ht
  have hall : ([22, 22, 22, 3, 5].all fun u => !Tryd.prog.wantsStandIn u) = true := by kernel_rfl
  have hm : t ∈ [22, 22, 22, 3, 5] := by simpa using Array.mem_of_getElem? ht
  exact (show Tryd.prog.wantsStandIn t = false by simpa using List.all_eq_true.1 hall t hm)
/-- the tied card -/
theorem card : Rows.MacChecksCardSaid :=
  Claim7.holds_tied_plain_at .later [] _ _ _ _ said (fun _ h => by cases h) (by kernel_rfl) (fun _ h => by cases h) macChecks_row_tie rfl ⟨rfl, rfl⟩ (by kernel_rfl) rfl plain (by kernel_rfl)
end Go.Proofs.YtglndmkfkmkngaaDoor.macChecks
namespace Go.Proofs.YtglndmkfkmkngaaDoor
theorem macChecks_holds : Rows.MacChecksCardSaid := macChecks.card
#print axioms macChecks_holds
end Go.Proofs.YtglndmkfkmkngaaDoor
