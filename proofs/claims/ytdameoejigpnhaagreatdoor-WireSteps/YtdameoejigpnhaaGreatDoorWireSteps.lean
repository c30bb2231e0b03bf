/- For every slice of bytes and every slice of truth values the law WireSteps returns true and both slices read as they did (P13.1, P13.2): what is answered to any bytes, one by one, request behind request. The library's tables are as the program's text lays them (the card ties them). -/
import Derived.Test.YtdameoejigpnhaaGreatDoorTDoor
import Derived.LaidMore
import Derived.Lay
import Derived.Test.YtdameoejigpnhaaGreatDoorWrt
import Derived.Test.YtdameoejigpnhaaGreatDoorWLaw
import Derived.Test.YtdameoejigpnhaaGreatDoorSma
import Derived.WalkKit
import Derived.ShutString
import Derived.ChangeOld
import Derived.Below
namespace Go.Proofs.YtdameoejigpnhaaGreatDoor.wireSteps
open Go.ChangeShapes Go.WideShapes Go.ChangeAt Go.RowKit
open Go.ChangeMaps (open_string shut_string)
set_option linter.unusedVariables false

theorem laidOut : laidOutB Tryz.prog = true := by kernel_rfl

set_option maxRecDepth 100000 in
set_option maxHeartbeats 1000000 in
theorem walk (a0 : Option Addr) (len0 cap0 : Nat) (l : List Int) (a1 : Option Addr) (len1 cap1 : Nat) (K : List Bool) (w : World) (hl : Bts w a0 len0 cap0 l) (hK : Bls w a1 len1 cap1 K) (hL : laidMetH Tryz.prog Rows.wireStepsRow.laid w) (hsh : w.ShapedOpen Tryz.prog) :
    Calls Tryz.prog 4 #[.slice a0 len0 cap0, .slice a1 len1 cap1] w fun e w' => e = .returned (.bool true) ∧ Below w.heap.size w w' := by
  have HEV := Bx.mk (env_at (plainH hL (by kernel_rfl)) hsh 2 4 5 rfl rfl rfl)
  clear hL hsh
  have HK := Bx.mk hK
  have hlen1 : len1 ≤ 9223372036854775807 := by have h1 := hK.le_cap; have h2 := hK.cap_le; unfold maxLen at h2; omega
  clear hK
  go_enter Tryz.func4, Tryz.ntmps4
  go_wp2_with fail
  refine (cut_any a0 len0 cap0 300 l _ hl (by decide)).mono ?_
  rintro e w' ⟨⟨len, rfl, hm⟩, rfl⟩
  have hlen : len ≤ 300 := by have := hm.len_eq; rw [List.length_take] at this; omega
  generalize l.take 300 = b at hm
  have HL := Bx.mk hm
  have HBY : Hid (Byt b) := hm.byt
  clear hl hm
  go_wp2_with fail
  refine (wnew_any _).mono ?_
  rintro e w1 ⟨rfl, hr1, hb1⟩
  have hbA : Below w1.heap.size w1 (w1.alloc (.cells (rowQ (.slice none 0 0) false false wx0 (.slice none 0 0)) 41)) := (Below.refl _ _).alloc (Nat.le_refl _) _
  have hgl := (wat_own hr1).2 _ rfl
  have HT : Bx (TwoW w (w1.alloc (.cells (rowQ (.slice none 0 0) false false wx0 (.slice none 0 0)) 41)) w.heap.size w1.heap.size (fun k => k = w.heap.size) (fun k => k = w1.heap.size) (.ok ws0) 0) :=
    ⟨wat_below hr1 hbA, ⟨[], false, false, wx0, .slice none 0 0, .slice none 0 0, ⟨Byt.nil, rfl, fun k hk => by rw [hk]; simp, heap_alloc_new w1 _, World.ownsRow_nil _ _ _ _, fun k hk => (by cases hk), Byt.nil, World.ownsRow_nil _ _ _ _, fun k hk => (by cases hk)⟩, QI.new wp0, Nat.le_refl _, fun _ => ⟨rfl, rfl⟩⟩, fun k h1 h2 => by rw [h1] at h2; omega, fun k hk => by
      have := hb1.size
      rcases hk with hk | hk
      · rw [hk]; exact Nat.le_refl _
      · rw [hk]; exact this, bstep hb1 hbA⟩
  obtain ⟨gx, hgx⟩ : ∃ x, x = w1.heap.size := ⟨_, rfl⟩
  obtain ⟨g, hg⟩ : ∃ x, x = w.heap.size := ⟨_, rfl⟩
  have HGX := Bx.mk hgx
  have HG := Bx.mk hg
  rw [← HG.out, ← HGX.out] at HT
  rw [← HG.out]
  obtain ⟨wA, hwA⟩ : ∃ x, w1.alloc (.cells (rowQ (.slice none 0 0) false false wx0 (.slice none 0 0)) 41) = x := ⟨_, rfl⟩
  rw [hwA] at HT
  unfold rowQ wx0 at hwA
  clear hr1 hb1 hbA hgl hgx hg
  go_wp2
  rw [← HGX.out]
  clear HGX hwA
  go_loopw [7] (fun i wr => ∃ (k : Nat) (own1 own2 : Nat → Prop) (r : WR), k ≤ len ∧ i = .int .i64 k ∧ Bx (TwoW w wr g gx own1 own2 r k)) (fun i _ => len - (intOf i).toNat)
  case atStart => exact ⟨0, _, _, _, Nat.zero_le _, rfl, HT⟩
  case round =>
    clear HT
    obtain ⟨k, own1, own2, r, hk, rfl, HS⟩ := hrel
    obtain ⟨wo, hwo⟩ : ∃ wo, wo = wr := ⟨_, rfl⟩
    subst hwo
    by_cases hlt : k < len
    · have hkI : (k : Int) < (len : Int) := by omega
      obtain ⟨bb, off, rfl, hbl, hc⟩ := HL.out.spot (by omega)
      have HCE : Bx (∀ W, Below w.heap.size w W → W.cell? ⟨bb, off + k, none⟩ = some (.int .u8 (b.getD k 0))) := ⟨fun W hW => (hW.cell (p := ⟨bb, off + k, none⟩) hbl).trans (hc k hlt)⟩
      have hbd := HBY.out.getD k
      generalize b.getD k 0 = C at HCE hbd
      have hcell := HCE.out _ HS.out.bel
      clear hc
      go_wp2_with fail
      refine (wput_any w.heap.size r C _ HS.out.rd hbd (HEV.out.below HS.out.bel) HS.out.bel.size (fun j hj => HS.out.lo j (.inl hj))).mono ?_
      rintro e w2 ⟨rfl, o1, hr2, hd2⟩
      have HX2 := Bx.mk (HS.out.left hd2)
      have HR2 := Bx.mk hr2
      have HD2 := Bx.mk hd2
      have hcell2 := HCE.out _ (HS.out.bel.trans (hd2.kept.low (fun k hk => HS.out.lo k (.inl hk)) HS.out.bel.size))
      clear hr2 hd2 hcell
      go_wp2_with fail
      refine (rput_any gx own2 r k C _ HX2.out (by omega) hbd).mono ?_
      rintro e w3 ⟨rfl, o2, hx3, hd3⟩
      have HS3 := Bx.mk (HS.out.both HD2.out HR2.out hd3 hx3)
      generalize puS wp0 r C = r3 at HS3
      generalize puD wp0 r C = D
      generalize puE wp0 r C = E
      have q1 : (D != D) = false := by simp
      have q2 : (E != E) = false := by simp
      clear hx3 hd3 HX2 HR2 HD2 hcell2 HCE HS
      obtain ⟨va0, n0, c0, hc0, hid⟩ := HS3.out.xd.idle
      obtain ⟨b0, hb0⟩ : ∃ b0, ((n0 : Int) == 0) = b0 := ⟨_, rfl⟩
      rw [hb0] at hid
      have HC0 := Bx.mk hc0
      have HID := Bx.mk hid
      have HGX : Bx (gx < w3.heap.size) := ⟨HS3.out.xd.lt gx HS3.out.xd.og⟩
      have HW3 := Bx.mk HS3.out.rd
      have hk : Below w3.heap.size w3 w3.drew := (Below.refl _ _).drew
      clear hc0 hid
      go_upto_region 10 with fail
      refine wp_region_held_drew (S := fun W => Below w3.heap.size w3 W) (by kernel_rfl) hk (fun _ => ?_)
      generalize w3.drew = wk at hk ⊢
      refine wpAnyH_take (i := 0) (oi := { dst := some 47, op := Op.move (Operand.tmp 8), type := 4, pos := "law.go:42", after := #[], guard := none }) (v := ?vwst101) rfl (by kernel_rfl) (by kernel_rfl) (by kernel_rfl) (fun _ _ _ h => h) (Or.inl ⟨by rfl, ?ywst101⟩) hk ?rwst101
      case ywst101 => (intro w hSw; (try dsimp only at hSw); go_simp; first | done | with_reducible rfl)
      simp only [Act.put, List.setIfInBounds_toArray, List.set_cons_zero, List.set_cons_succ]
      refine wpAnyH_take (i := 1) (oi := { dst := some 48, op := Op.move (Operand.tmp 10), type := 4, pos := "law.go:42", after := #[], guard := none }) (v := ?vwst102) rfl (by kernel_rfl) (by kernel_rfl) (by kernel_rfl) (fun _ _ _ h => h) (Or.inl ⟨by rfl, ?ywst102⟩) hk ?rwst102
      case ywst102 => (intro w hSw; (try dsimp only at hSw); go_simp; first | done | with_reducible rfl)
      simp only [Act.put, List.setIfInBounds_toArray, List.set_cons_zero, List.set_cons_succ]
      refine wpAnyH_take (i := 2) (oi := { dst := some 49, op := Op.binOp BinOp.neq 4 (Operand.tmp 47) (Operand.tmp 48) 4, type := 4, pos := "law.go:42", after := #[{ on := 0, ground := Ground.data }, { on := 1, ground := Ground.data }], guard := none }) (v := ?vwst103) rfl (by kernel_rfl) (by kernel_rfl) (by kernel_rfl) (fun _ _ _ h => h) (Or.inl ⟨by rfl, ?ywst103⟩) hk ?rwst103
      case ywst103 => (intro w hSw; (try dsimp only at hSw); go_simp; first | done | with_reducible rfl)
      simp only [Act.put, List.setIfInBounds_toArray, List.set_cons_zero, List.set_cons_succ]
      refine wpAnyH_take (i := 3) (oi := { dst := some 50, op := Op.move (Operand.tmp 49), type := 4, pos := "law.go:42", after := #[{ on := 2, ground := Ground.data }], guard := none }) (v := ?vwst104) rfl (by kernel_rfl) (by kernel_rfl) (by kernel_rfl) (fun _ _ _ h => h) (Or.inl ⟨by rfl, ?ywst104⟩) hk ?rwst104
      case ywst104 => (intro w hSw; (try dsimp only at hSw); go_simp; first | done | with_reducible rfl)
      simp only [Act.put, List.setIfInBounds_toArray, List.set_cons_zero, List.set_cons_succ]
      refine wpAnyH_take (i := 4) (oi := { dst := some 51, op := Op.move (Operand.tmp 9), type := 27, pos := "law.go:42", after := #[{ on := 3, ground := Ground.guard }], guard := some (3, false) }) (v := ?vwst105) rfl (by kernel_rfl) (by kernel_rfl) (by kernel_rfl) (fun _ _ _ h => h) (Or.inl ⟨by rfl, ?ywst105⟩) hk ?rwst105
      case ywst105 => (intro w hSw; (try dsimp only at hSw); go_simp; first | done | with_reducible rfl)
      simp only [Act.put, List.setIfInBounds_toArray, List.set_cons_zero, List.set_cons_succ]
      refine wpAnyH_take (i := 5) (oi := { dst := some 52, op := Op.move (Operand.tmp 11), type := 3, pos := "law.go:42", after := #[{ on := 3, ground := Ground.guard }], guard := some (3, false) }) (v := ?vwst106) rfl (by kernel_rfl) (by kernel_rfl) (by kernel_rfl) (fun _ _ _ h => h) (Or.inl ⟨by rfl, ?ywst106⟩) hk ?rwst106
      case ywst106 => (intro w hSw; (try dsimp only at hSw); go_simp; first | done | with_reducible rfl)
      simp only [Act.put, List.setIfInBounds_toArray, List.set_cons_zero, List.set_cons_succ]
      refine wpAnyH_take (i := 6) (oi := { dst := some 53, op := Op.binOp BinOp.neq 3 (Operand.tmp 51) (Operand.tmp 52) 3, type := 4, pos := "law.go:42", after := #[{ on := 4, ground := Ground.data }, { on := 5, ground := Ground.data }, { on := 3, ground := Ground.guard }], guard := some (3, false) }) (v := ?vwst107) rfl (by kernel_rfl) (by kernel_rfl) (by kernel_rfl) (fun _ _ _ h => h) (Or.inl ⟨by rfl, ?ywst107⟩) hk ?rwst107
      case ywst107 => (intro w hSw; (try dsimp only at hSw); go_simp; first | done | with_reducible rfl)
      simp only [Act.put, List.setIfInBounds_toArray, List.set_cons_zero, List.set_cons_succ]
      refine wpAnyH_take (i := 7) (oi := { dst := some 54, op := Op.pick (Operand.tmp 50) (Operand.const (Value.bool true)) (Operand.tmp 53), type := 4, pos := "law.go:42", after := #[{ on := 3, ground := Ground.data }, { on := 6, ground := Ground.data }], guard := none }) (v := ?vwst108) rfl (by kernel_rfl) (by kernel_rfl) (by kernel_rfl) (fun _ _ _ h => h) (Or.inl ⟨by rfl, ?ywst108⟩) hk ?rwst108
      case ywst108 => (intro w hSw; (try dsimp only at hSw); go_simp; first | done | with_reducible rfl)
      simp only [Act.put, List.setIfInBounds_toArray, List.set_cons_zero, List.set_cons_succ]
      refine wpAnyH_take (i := 8) (oi := { dst := some 55, op := Op.move (Operand.tmp 54), type := 4, pos := "law.go:42", after := #[{ on := 7, ground := Ground.data }, { on := 3, ground := Ground.chain }], guard := none }) (v := ?vwst109) rfl (by kernel_rfl) (by kernel_rfl) (by kernel_rfl) (fun _ _ _ h => h) (Or.inl ⟨by rfl, ?ywst109⟩) hk ?rwst109
      case ywst109 => (intro w hSw; (try dsimp only at hSw); go_simp; first | done | with_reducible rfl)
      simp only [Act.put, List.setIfInBounds_toArray, List.set_cons_zero, List.set_cons_succ]
      refine wpAnyH_take (i := 9) (oi := { dst := some 56, op := Op.move (Operand.tmp 5), type := 37, pos := "law.go:42", after := #[{ on := 8, ground := Ground.guard }], guard := some (8, false) }) (v := ?vwst1010) rfl (by kernel_rfl) (by kernel_rfl) (by kernel_rfl) (fun _ _ _ h => h) (Or.inl ⟨by rfl, ?ywst1010⟩) hk ?rwst1010
      case ywst1010 => (intro w hSw; (try dsimp only at hSw); go_simp; first | done | with_reducible rfl)
      simp only [Act.put, List.setIfInBounds_toArray, List.set_cons_zero, List.set_cons_succ]
      refine wpAnyH_take (i := 11) (oi := { dst := some 58, op := Op.move (Operand.tmp 6), type := 39, pos := "law.go:42", after := #[{ on := 8, ground := Ground.guard }], guard := some (8, false) }) (v := ?vwst1011) rfl (by kernel_rfl) (by kernel_rfl) (by kernel_rfl) (fun _ _ _ h => h) (Or.inl ⟨by rfl, ?ywst1011⟩) hk ?rwst1011
      case ywst1011 => (intro w hSw; (try dsimp only at hSw); go_simp; first | done | with_reducible rfl)
      simp only [Act.put, List.setIfInBounds_toArray, List.set_cons_zero, List.set_cons_succ]
      refine wpAnyH_take (i := 12) (oi := { dst := some 59, op := Op.nilCheck (Operand.tmp 58), type := 0, pos := "law.go:42", after := #[{ on := 11, ground := Ground.data }, { on := 8, ground := Ground.guard }], guard := some (8, false) }) (v := ?vwst1012) rfl (by kernel_rfl) (by kernel_rfl) (by kernel_rfl) (fun _ _ _ h => h) (Or.inl ⟨by rfl, ?ywst1012⟩) hk ?rwst1012
      case ywst1012 => (intro w hSw; (try dsimp only at hSw); go_simp; first | done | with_reducible rfl)
      simp only [Act.put, List.setIfInBounds_toArray, List.set_cons_zero, List.set_cons_succ]
      refine wpAnyH_take (i := 13) (oi := { dst := some 60, op := Op.fieldAddr 41 (Operand.tmp 59) 0, type := 0, pos := "law.go:42", after := #[{ on := 12, ground := Ground.data }, { on := 8, ground := Ground.guard }], guard := some (8, false) }) (v := ?vwst1013) rfl (by kernel_rfl) (by kernel_rfl) (by kernel_rfl) (fun _ _ _ h => h) (Or.inl ⟨by rfl, ?ywst1013⟩) hk ?rwst1013
      case ywst1013 => (intro w hSw; (try dsimp only at hSw); go_simp; first | done | with_reducible rfl)
      simp only [Act.put, List.setIfInBounds_toArray, List.set_cons_zero, List.set_cons_succ]
      refine wpAnyH_take (i := 14) (oi := { dst := some 61, op := Op.load 22 (Operand.tmp 60), type := 22, pos := "law.go:42", after := #[{ on := 13, ground := Ground.data }, { on := 8, ground := Ground.guard }], guard := some (8, false) }) (v := ?vwst1014) rfl (by kernel_rfl) (by kernel_rfl) (by kernel_rfl) (fun _ _ _ h => h) (Or.inl ⟨by rfl, ?ywst1014⟩) hk ?rwst1014
      case ywst1014 => (intro w hSw; have hcw := (hSw.cell (p := ⟨gx, 0, none⟩) HGX.out).trans HC0.out; clear hSw; go_simp; first | done | with_reducible rfl)
      simp only [Act.put, List.setIfInBounds_toArray, List.set_cons_zero, List.set_cons_succ]
      refine wpAnyH_take (i := 15) (oi := { dst := some 62, op := Op.call { callee := Callee.builtin Builtin.len, args := #[Operand.tmp 61], argTypes := #[22] }, type := 3, pos := "law.go:42", after := #[{ on := 14, ground := Ground.data }, { on := 8, ground := Ground.guard }], guard := some (8, false) }) (v := ?vwst1015) rfl (by kernel_rfl) (by kernel_rfl) (by kernel_rfl) (fun _ _ _ h => h) (Or.inl ⟨by rfl, ?ywst1015⟩) hk ?rwst1015
      case ywst1015 => (intro w hSw; (try dsimp only at hSw); go_simp; first | done | with_reducible rfl)
      simp only [Act.put, List.setIfInBounds_toArray, List.set_cons_zero, List.set_cons_succ]
      refine wpAnyH_take (i := 16) (oi := { dst := some 63, op := Op.binOp BinOp.eql 3 (Operand.tmp 62) (Operand.const (Value.int IntKind.i64 0)) 3, type := 4, pos := "law.go:42", after := #[{ on := 15, ground := Ground.data }, { on := 8, ground := Ground.guard }], guard := some (8, false) }) (v := ?vwst1016) rfl (by kernel_rfl) (by kernel_rfl) (by kernel_rfl) (fun _ _ _ h => h) (Or.inl ⟨by rfl, ?ywst1016⟩) hk ?rwst1016
      case ywst1016 => (intro w hSw; (try dsimp only at hSw); go_simp; first | done | with_reducible rfl)
      simp only [Act.put, List.setIfInBounds_toArray, List.set_cons_zero, List.set_cons_succ]
      refine wpAnyH_ready (rs := [10]) (by decide +kernel) (by simp) ?_
      refine AllReadyH.cons (o := { dst := some 57, op := Op.call { callee := Callee.value (Operand.func 19), args := #[Operand.tmp 56], argTypes := #[37] }, type := 4, pos := "law.go:42", after := #[{ on := 9, ground := Ground.data }, { on := 8, ground := Ground.chain }, { on := 8, ground := Ground.guard }], guard := some (8, false) }) rfl (fun K hK => ?_) AllReadyH.nil
      go_simp
      refine (widle_any r3 _ (wat_below HW3.out hk)).mono ?_
      rintro e9 w9 ⟨rfl, hw9⟩
      rw [hw9]
      clear hw9
      rw [HID.out]
      refine hK.out _ _ hk (fun _ => ?_)
      clear hK K
      try simp only [Act.put, List.setIfInBounds_toArray, List.set_cons_zero, List.set_cons_succ]
      refine wpAnyH_take (i := 17) (oi := { dst := some 64, op := Op.binOp BinOp.neq 4 (Operand.tmp 57) (Operand.tmp 63) 4, type := 4, pos := "law.go:42", after := #[{ on := 10, ground := Ground.data }, { on := 16, ground := Ground.data }, { on := 8, ground := Ground.guard }], guard := some (8, false) }) (v := ?vwst1017) rfl (by kernel_rfl) (by kernel_rfl) (by kernel_rfl) (fun _ _ _ h => h) (Or.inl ⟨by rfl, ?ywst1017⟩) hk ?rwst1017
      case ywst1017 => (intro w hSw; (try dsimp only at hSw); go_simp; first | done | with_reducible rfl)
      simp only [Act.put, List.setIfInBounds_toArray, List.set_cons_zero, List.set_cons_succ]
      refine wpAnyH_take (i := 18) (oi := { dst := some 65, op := Op.pick (Operand.tmp 55) (Operand.const (Value.bool true)) (Operand.tmp 64), type := 4, pos := "law.go:42", after := #[{ on := 8, ground := Ground.data }, { on := 17, ground := Ground.data }], guard := none }) (v := ?vwst1018) rfl (by kernel_rfl) (by kernel_rfl) (by kernel_rfl) (fun _ _ _ h => h) (Or.inl ⟨by rfl, ?ywst1018⟩) hk ?rwst1018
      case ywst1018 => (intro w hSw; (try dsimp only at hSw); go_simp; first | done | with_reducible rfl)
      simp only [Act.put, List.setIfInBounds_toArray, List.set_cons_zero, List.set_cons_succ]
      refine wpAnyH_done (by decide +kernel) ?_ _
      have HS4 := Bx.mk (HS3.out.below hk)
      clear HS3 HC0 HID HGX HW3 hb0 q1 q2
      obtain ⟨BK, hBK⟩ : ∃ BK : Bool, BK = decide (0 < len1 ∧ K.getD (k % len1) false = false) := ⟨_, rfl⟩
      have HBK := Bx.mk hBK
      clear hBK
      go_upto_region 12 with fail
      go_cut [78] from 66 to 78 (fun c wx => c = .bool BK ∧ wx = wk)
      case first =>
        by_cases h1 : 0 < len1
        · have p0 : (len1 : Int) > 0 := by omega
          have p1 : ¬ (len1 : Int) = 0 := by omega
          obtain ⟨kb, ko, rfl, hkl, hkc⟩ := (HK.out.below HS4.out.bel).spot h1
          have ht : Int.tmod (k : Int) (len1 : Int) = ((k % len1 : Nat) : Int) := rfl
          have hj := Nat.mod_lt k h1
          have hkc2 := hkc (k % len1) hj
          have HBK2 : Bx (BK = ! (K.getD (k % len1) false)) := ⟨by rw [HBK.out]; cases K.getD (k % len1) false <;> simp [h1]⟩
          generalize k % len1 = j at *
          have hjI : (j : Int) < (len1 : Int) := by omega
          have hj0 : (0 : Int) ≤ (j : Int) := by omega
          generalize K.getD j false = KJ at *
          clear hkc
          go_wp2_with fail
          go_meet
          exact ⟨by rw [HBK2.out], rfl⟩
        · have p0 : ¬ (len1 : Int) > 0 := by omega
          have HBK2 : Bx (BK = false) := ⟨by rw [HBK.out]; simp [h1]⟩
          go_wp2_with fail
          go_meet
          exact ⟨by rw [HBK2.out], rfl⟩
      case rest =>
        obtain ⟨rfl, hwx⟩ := hcut
        have hwy := hwx.symm
        subst hwy
        cases BK with
        | true =>
          go_wp2
          go_roundw
          case rel => exact ⟨k + 1, o1, o2, r3, by omega, by go_num, HS4⟩
          case measure => simp [intOf]; omega
        | false =>
          go_wp2_with fail
          refine (wtake_any r3 _ HS4.out.rd).mono ?_
          rintro e w4 ⟨v4, o4, rfl, hw4, hy4, ho4, hx4, hd4⟩
          obtain ⟨ap, cp, rfl⟩ := own_sl ho4
          obtain ⟨Z, hZ⟩ : ∃ Z, Z = tkX r3 := ⟨_, rfl⟩
          have HZ := Bx.mk hZ
          rw [← HZ.out] at hy4 ho4 hx4 ⊢
          obtain ⟨NZ, hNZ⟩ : ∃ n, n = Z.b.length := ⟨_, rfl⟩
          have HNZ := Bx.mk hNZ
          rw [← HNZ.out] at ho4 hx4 ⊢
          have hal : Below w4.heap.size w4 (w4.alloc (.cells #[.string Z.m, .string Z.t, .string Z.k, .slice ap NZ cp] 26)) := (Below.refl _ _).alloc (Nat.le_refl _) _
          have hRP : (w4.alloc (.cells #[.string Z.m, .string Z.t, .string Z.k, .slice ap NZ cp] 26)).heap[w4.heap.size]? = some (.cells #[.string Z.m, .string Z.t, .string Z.k, .slice ap NZ cp] 26 (0, 0)) := heap_alloc_new w4 _
          have hD5 : Did o1 wk (w4.alloc (.cells #[.string Z.m, .string Z.t, .string Z.k, .slice ap NZ cp] 26)) o4 := ⟨hd4.kept.below hal, fun k hk => (hd4.new k hk).imp id (fun h => ⟨h.1, Nat.lt_of_lt_of_le h.2 hal.size⟩)⟩
          have hW5 := wat_below hw4 hal
          have hO5 := owns_below ho4 hal
          have HX5 : Bx (∀ k, (Value.slice ap NZ cp).ownBlock = some k → ¬ o2 k) := ⟨fun k hk h2 => by
            rcases (hx4 k hk).2 with h | h
            · exact HS4.out.dj k h h2
            · have := HS4.out.xd.lt k h2; omega⟩
          have HN5 : Bx (¬ o2 w4.heap.size) := ⟨fun h2 => by have h3 := HS4.out.xd.lt _ h2; have h4 := hd4.kept.size; omega⟩
          have HXL := Bx.mk (HS4.out.left hD5)
          have HD5 := Bx.mk hD5
          have HW5 := Bx.mk hW5
          have HO5 := Bx.mk hO5
          have HRP5 := Bx.mk hRP
          have HBZ := Bx.mk hy4
          obtain ⟨PX, hPX⟩ : ∃ x, x = w4.heap.size := ⟨_, rfl⟩
          have HPX := Bx.mk hPX
          rw [← hPX] at HRP5 HN5
          obtain ⟨W5, hW5'⟩ : ∃ x, w4.alloc (.cells #[.string Z.m, .string Z.t, .string Z.k, .slice ap NZ cp] 26) = x := ⟨_, rfl⟩
          rw [hW5'] at HRP5 HXL HD5 HW5 HO5
          have HEQ5 := Bx.mk hW5'
          clear hal hRP hD5 hW5 hO5 hw4 hy4 ho4 hx4 hd4 hPX hW5' hZ hNZ
          unfold reqV
          go_wp2_with (rw [HEQ5.out, ← HPX.out]; clear HEQ5)
          refine (rtake_any gx o2 r3 (k + 1) _ HXL.out).mono ?_
          rintro e w6 ⟨v6, rfl, hx6, hy6, ho6, hd6⟩
          obtain ⟨aq, cq, rfl⟩ := own_sl ho6
          rw [← HZ.out] at hy6 ho6 ⊢
          rw [← HNZ.out] at ho6 ⊢
          have hT6 := HS4.out.both HD5.out HW5.out hd6 hx6
          have hal : Below w6.heap.size w6 (w6.alloc (.cells #[.string Z.m, .string Z.t, .string Z.k, .slice aq NZ cq] 26)) := (Below.refl _ _).alloc (Nat.le_refl _) _
          have HRQ : Bx ((w6.alloc (.cells #[.string Z.m, .string Z.t, .string Z.k, .slice aq NZ cq] 26)).heap[w6.heap.size]? = some (.cells #[.string Z.m, .string Z.t, .string Z.k, .slice aq NZ cq] 26 (0, 0))) := ⟨heap_alloc_new w6 _⟩
          have hr6 : w6.heap[PX]? = some (.cells #[.string Z.m, .string Z.t, .string Z.k, .slice ap NZ cp] 26 (0, 0)) := by rw [hd6.kept.block _ (Array.getElem?_eq_some_iff.1 HRP5.out).1 HN5.out]; exact HRP5.out
          have HRP : Bx ((w6.alloc (.cells #[.string Z.m, .string Z.t, .string Z.k, .slice aq NZ cq] 26)).heap[PX]? = some (.cells #[.string Z.m, .string Z.t, .string Z.k, .slice ap NZ cp] 26 (0, 0))) := ⟨by rw [hal.block _ (Array.getElem?_eq_some_iff.1 hr6).1]; exact hr6⟩
          have hop : w6.ownsRow 0 5 1 (.slice ap NZ cp) NZ (bv Z.b) := own_keep HO5.out (fun j hj => hd6.kept.block j (by
            rcases HO5.out.2 with ⟨h1, _⟩ | ⟨g', cap', cur, h1, _, h2, _⟩
            · rw [h1] at hj; cases hj
            · rw [h1] at hj; cases hj; exact (Array.getElem?_eq_some_iff.1 h2).1) (HX5.out j hj))
          have HBP : Bx (Bts (w6.alloc (.cells #[.string Z.m, .string Z.t, .string Z.k, .slice aq NZ cq] 26)) ap NZ cp Z.b) := ⟨by
            obtain ⟨a9, c9, h9, hb9⟩ := Bts.of_owns (by rw [HNZ.out] at hop; exact hop) HBZ.out
            rw [← HNZ.out] at h9 hb9
            cases h9; exact hb9.below hal⟩
          have HBQ : Bx (Bts (w6.alloc (.cells #[.string Z.m, .string Z.t, .string Z.k, .slice aq NZ cq] 26)) aq NZ cq Z.b) := ⟨by
            obtain ⟨a9, c9, h9, hb9⟩ := Bts.of_owns (by rw [HNZ.out] at ho6; exact ho6) HBZ.out
            rw [← HNZ.out] at h9 hb9
            cases h9; exact hb9.below hal⟩
          have HT7 := Bx.mk (hT6.below hal)
          obtain ⟨QX, hQX⟩ : ∃ x, x = w6.heap.size := ⟨_, rfl⟩
          have HQX := Bx.mk hQX
          rw [← hQX] at HRQ
          obtain ⟨W7, hW7'⟩ : ∃ x, w6.alloc (.cells #[.string Z.m, .string Z.t, .string Z.k, .slice aq NZ cq] 26) = x := ⟨_, rfl⟩
          rw [hW7'] at HRP HRQ HBP HBQ HT7
          have HEQ7 := Bx.mk hW7'
          generalize tkS r3 = r7 at *
          generalize tkB r3 = TB at *
          have q1 : (TB != TB) = false := by simp
          obtain ⟨va0, n0, c0, hc0, hid⟩ := HT7.out.xd.idle
          obtain ⟨b0, hb0⟩ : ∃ b0, ((n0 : Int) == 0) = b0 := ⟨_, rfl⟩
          rw [hb0] at hid
          have HC7 := Bx.mk hc0
          have HID7 := Bx.mk hid
          have HGX7 : Bx (gx < W7.heap.size) := ⟨HT7.out.xd.lt gx HT7.out.xd.og⟩
          have HW7 := Bx.mk HT7.out.rd
          clear hk
          have hk : Below W7.heap.size W7 W7.drew := (Below.refl _ _).drew
          clear hc0 hid hal hr6 hop hT6 hx6 hy6 ho6 hd6 hQX hW7' HXL HD5 HW5 HO5 HRP5 HX5 HN5
          unfold reqV
          go_upto_region 15 with (rw [HEQ7.out, ← HQX.out]; clear HEQ7)
          refine wp_region_held_drew (S := fun W => Below W7.heap.size W7 W) (by kernel_rfl) hk (fun _ => ?_)
          generalize W7.drew = wk at hk ⊢
          refine wpAnyH_take (i := 0) (oi := { dst := some 89, op := Op.move (Operand.tmp 13), type := 4, pos := "law.go:50", after := #[], guard := none }) (v := ?vwst151) rfl (by kernel_rfl) (by kernel_rfl) (by kernel_rfl) (fun _ _ _ h => h) (Or.inl ⟨by rfl, ?ywst151⟩) hk ?rwst151
          case ywst151 => (intro w hSw; (try dsimp only at hSw); go_simp; first | done | with_reducible rfl)
          simp only [Act.put, List.setIfInBounds_toArray, List.set_cons_zero, List.set_cons_succ]
          refine wpAnyH_take (i := 1) (oi := { dst := some 90, op := Op.move (Operand.tmp 15), type := 4, pos := "law.go:50", after := #[], guard := none }) (v := ?vwst152) rfl (by kernel_rfl) (by kernel_rfl) (by kernel_rfl) (fun _ _ _ h => h) (Or.inl ⟨by rfl, ?ywst152⟩) hk ?rwst152
          case ywst152 => (intro w hSw; (try dsimp only at hSw); go_simp; first | done | with_reducible rfl)
          simp only [Act.put, List.setIfInBounds_toArray, List.set_cons_zero, List.set_cons_succ]
          refine wpAnyH_take (i := 2) (oi := { dst := some 91, op := Op.binOp BinOp.neq 4 (Operand.tmp 89) (Operand.tmp 90) 4, type := 4, pos := "law.go:50", after := #[{ on := 0, ground := Ground.data }, { on := 1, ground := Ground.data }], guard := none }) (v := ?vwst153) rfl (by kernel_rfl) (by kernel_rfl) (by kernel_rfl) (fun _ _ _ h => h) (Or.inl ⟨by rfl, ?ywst153⟩) hk ?rwst153
          case ywst153 => (intro w hSw; (try dsimp only at hSw); go_simp; first | done | with_reducible rfl)
          simp only [Act.put, List.setIfInBounds_toArray, List.set_cons_zero, List.set_cons_succ]
          refine wpAnyH_take (i := 3) (oi := { dst := some 92, op := Op.move (Operand.tmp 91), type := 4, pos := "law.go:50", after := #[{ on := 2, ground := Ground.data }], guard := none }) (v := ?vwst154) rfl (by kernel_rfl) (by kernel_rfl) (by kernel_rfl) (fun _ _ _ h => h) (Or.inl ⟨by rfl, ?ywst154⟩) hk ?rwst154
          case ywst154 => (intro w hSw; (try dsimp only at hSw); go_simp; first | done | with_reducible rfl)
          simp only [Act.put, List.setIfInBounds_toArray, List.set_cons_zero, List.set_cons_succ]
          refine wpAnyH_take (i := 4) (oi := { dst := some 93, op := Op.load 26 (Operand.tmp 12), type := 26, pos := "law.go:50", after := #[{ on := 3, ground := Ground.guard }], guard := some (3, false) }) (v := .agg ([.string Z.m, .string Z.t, .string Z.k, .slice ap NZ cp]).toArray) rfl (by kernel_rfl) (by kernel_rfl) (by kernel_rfl) (fun _ _ _ h => h) (yieldsIf_load_mid (by rfl) 26 (.tmp 12) rfl PX 0 rfl ([.string Z.m, .string Z.t, .string Z.k, .slice ap NZ cp]) _ (fun W h => World.rangeAt_of_block ((h.block _ (Array.getElem?_eq_some_iff.1 HRP.out).1).trans HRP.out) 0 4) Tryz.underlying26 rfl req_info) hk ?_
          simp only [Act.put, List.setIfInBounds_toArray, List.set_cons_zero, List.set_cons_succ]
          refine wpAnyH_take (i := 5) (oi := { dst := some 94, op := Op.load 26 (Operand.tmp 14), type := 26, pos := "law.go:50", after := #[{ on := 3, ground := Ground.guard }], guard := some (3, false) }) (v := .agg ([.string Z.m, .string Z.t, .string Z.k, .slice aq NZ cq]).toArray) rfl (by kernel_rfl) (by kernel_rfl) (by kernel_rfl) (fun _ _ _ h => h) (yieldsIf_load_mid (by rfl) 26 (.tmp 14) rfl QX 0 rfl ([.string Z.m, .string Z.t, .string Z.k, .slice aq NZ cq]) _ (fun W h => World.rangeAt_of_block ((h.block _ (Array.getElem?_eq_some_iff.1 HRQ.out).1).trans HRQ.out) 0 4) Tryz.underlying26 rfl req_info) hk ?_
          simp only [Act.put, List.setIfInBounds_toArray, List.set_cons_zero, List.set_cons_succ]
          refine wpAnyH_ready (rs := [6]) (by decide +kernel) (by simp) ?_
          refine AllReadyH.cons (o := { dst := some 95, op := Op.call { callee := Callee.value (Operand.func 13), args := #[Operand.tmp 93, Operand.tmp 94], argTypes := #[26, 26] }, type := 4, pos := "law.go:50", after := #[{ on := 4, ground := Ground.data }, { on := 5, ground := Ground.data }, { on := 3, ground := Ground.chain }, { on := 3, ground := Ground.guard }], guard := some (3, false) }) rfl (fun K hK => ?_) AllReadyH.nil
          go_simp
          refine (rsame_any Z Z ap aq NZ NZ cp cq _ (HBP.out.below hk) (HBQ.out.below hk)).mono ?_
          rintro e9 w9 ⟨rfl, hb9⟩
          rw [smW_self]
          replace hk := bstep hk hb9
          clear hb9
          obtain ⟨wk, hwk⟩ : ∃ x, x = w9 := ⟨_, rfl⟩
          subst hwk
          refine hK.out _ _ hk (fun _ => ?_)
          clear hK K
          try simp only [Act.put, List.setIfInBounds_toArray, List.set_cons_zero, List.set_cons_succ]
          refine wpAnyH_take (i := 7) (oi := { dst := some 96, op := Op.unOp UnOp.not 4 (Operand.tmp 95), type := 4, pos := "law.go:50", after := #[{ on := 6, ground := Ground.data }, { on := 3, ground := Ground.guard }], guard := some (3, false) }) (v := ?vwst155) rfl (by kernel_rfl) (by kernel_rfl) (by kernel_rfl) (fun _ _ _ h => h) (Or.inl ⟨by rfl, ?ywst155⟩) hk ?rwst155
          case ywst155 => (intro w hSw; (try dsimp only at hSw); go_simp; first | done | with_reducible rfl)
          simp only [Act.put, List.setIfInBounds_toArray, List.set_cons_zero, List.set_cons_succ]
          refine wpAnyH_take (i := 8) (oi := { dst := some 97, op := Op.pick (Operand.tmp 92) (Operand.const (Value.bool true)) (Operand.tmp 96), type := 4, pos := "law.go:50", after := #[{ on := 3, ground := Ground.data }, { on := 7, ground := Ground.data }], guard := none }) (v := ?vwst156) rfl (by kernel_rfl) (by kernel_rfl) (by kernel_rfl) (fun _ _ _ h => h) (Or.inl ⟨by rfl, ?ywst156⟩) hk ?rwst156
          case ywst156 => (intro w hSw; (try dsimp only at hSw); go_simp; first | done | with_reducible rfl)
          simp only [Act.put, List.setIfInBounds_toArray, List.set_cons_zero, List.set_cons_succ]
          refine wpAnyH_take (i := 9) (oi := { dst := some 98, op := Op.move (Operand.tmp 97), type := 4, pos := "law.go:50", after := #[{ on := 8, ground := Ground.data }, { on := 6, ground := Ground.chain }], guard := none }) (v := ?vwst157) rfl (by kernel_rfl) (by kernel_rfl) (by kernel_rfl) (fun _ _ _ h => h) (Or.inl ⟨by rfl, ?ywst157⟩) hk ?rwst157
          case ywst157 => (intro w hSw; (try dsimp only at hSw); go_simp; first | done | with_reducible rfl)
          simp only [Act.put, List.setIfInBounds_toArray, List.set_cons_zero, List.set_cons_succ]
          refine wpAnyH_take (i := 10) (oi := { dst := some 99, op := Op.move (Operand.tmp 5), type := 37, pos := "law.go:50", after := #[{ on := 9, ground := Ground.guard }], guard := some (9, false) }) (v := ?vwst158) rfl (by kernel_rfl) (by kernel_rfl) (by kernel_rfl) (fun _ _ _ h => h) (Or.inl ⟨by rfl, ?ywst158⟩) hk ?rwst158
          case ywst158 => (intro w hSw; (try dsimp only at hSw); go_simp; first | done | with_reducible rfl)
          simp only [Act.put, List.setIfInBounds_toArray, List.set_cons_zero, List.set_cons_succ]
          refine wpAnyH_take (i := 12) (oi := { dst := some 101, op := Op.move (Operand.tmp 6), type := 39, pos := "law.go:50", after := #[{ on := 9, ground := Ground.guard }], guard := some (9, false) }) (v := ?vwst159) rfl (by kernel_rfl) (by kernel_rfl) (by kernel_rfl) (fun _ _ _ h => h) (Or.inl ⟨by rfl, ?ywst159⟩) hk ?rwst159
          case ywst159 => (intro w hSw; (try dsimp only at hSw); go_simp; first | done | with_reducible rfl)
          simp only [Act.put, List.setIfInBounds_toArray, List.set_cons_zero, List.set_cons_succ]
          refine wpAnyH_take (i := 13) (oi := { dst := some 102, op := Op.nilCheck (Operand.tmp 101), type := 0, pos := "law.go:50", after := #[{ on := 12, ground := Ground.data }, { on := 9, ground := Ground.guard }], guard := some (9, false) }) (v := ?vwst1510) rfl (by kernel_rfl) (by kernel_rfl) (by kernel_rfl) (fun _ _ _ h => h) (Or.inl ⟨by rfl, ?ywst1510⟩) hk ?rwst1510
          case ywst1510 => (intro w hSw; (try dsimp only at hSw); go_simp; first | done | with_reducible rfl)
          simp only [Act.put, List.setIfInBounds_toArray, List.set_cons_zero, List.set_cons_succ]
          refine wpAnyH_take (i := 14) (oi := { dst := some 103, op := Op.fieldAddr 41 (Operand.tmp 102) 0, type := 0, pos := "law.go:50", after := #[{ on := 13, ground := Ground.data }, { on := 9, ground := Ground.guard }], guard := some (9, false) }) (v := ?vwst1511) rfl (by kernel_rfl) (by kernel_rfl) (by kernel_rfl) (fun _ _ _ h => h) (Or.inl ⟨by rfl, ?ywst1511⟩) hk ?rwst1511
          case ywst1511 => (intro w hSw; (try dsimp only at hSw); go_simp; first | done | with_reducible rfl)
          simp only [Act.put, List.setIfInBounds_toArray, List.set_cons_zero, List.set_cons_succ]
          refine wpAnyH_take (i := 15) (oi := { dst := some 104, op := Op.load 22 (Operand.tmp 103), type := 22, pos := "law.go:50", after := #[{ on := 14, ground := Ground.data }, { on := 9, ground := Ground.guard }], guard := some (9, false) }) (v := ?vwst1512) rfl (by kernel_rfl) (by kernel_rfl) (by kernel_rfl) (fun _ _ _ h => h) (Or.inl ⟨by rfl, ?ywst1512⟩) hk ?rwst1512
          case ywst1512 => (intro w hSw; have hcw := (hSw.cell (p := ⟨gx, 0, none⟩) HGX7.out).trans HC7.out; clear hSw; go_simp; first | done | with_reducible rfl)
          simp only [Act.put, List.setIfInBounds_toArray, List.set_cons_zero, List.set_cons_succ]
          refine wpAnyH_take (i := 16) (oi := { dst := some 105, op := Op.call { callee := Callee.builtin Builtin.len, args := #[Operand.tmp 104], argTypes := #[22] }, type := 3, pos := "law.go:50", after := #[{ on := 15, ground := Ground.data }, { on := 9, ground := Ground.guard }], guard := some (9, false) }) (v := ?vwst1513) rfl (by kernel_rfl) (by kernel_rfl) (by kernel_rfl) (fun _ _ _ h => h) (Or.inl ⟨by rfl, ?ywst1513⟩) hk ?rwst1513
          case ywst1513 => (intro w hSw; (try dsimp only at hSw); go_simp; first | done | with_reducible rfl)
          simp only [Act.put, List.setIfInBounds_toArray, List.set_cons_zero, List.set_cons_succ]
          refine wpAnyH_take (i := 17) (oi := { dst := some 106, op := Op.binOp BinOp.eql 3 (Operand.tmp 105) (Operand.const (Value.int IntKind.i64 0)) 3, type := 4, pos := "law.go:50", after := #[{ on := 16, ground := Ground.data }, { on := 9, ground := Ground.guard }], guard := some (9, false) }) (v := ?vwst1514) rfl (by kernel_rfl) (by kernel_rfl) (by kernel_rfl) (fun _ _ _ h => h) (Or.inl ⟨by rfl, ?ywst1514⟩) hk ?rwst1514
          case ywst1514 => (intro w hSw; (try dsimp only at hSw); go_simp; first | done | with_reducible rfl)
          simp only [Act.put, List.setIfInBounds_toArray, List.set_cons_zero, List.set_cons_succ]
          refine wpAnyH_ready (rs := [11]) (by decide +kernel) (by simp) ?_
          refine AllReadyH.cons (o := { dst := some 100, op := Op.call { callee := Callee.value (Operand.func 19), args := #[Operand.tmp 99], argTypes := #[37] }, type := 4, pos := "law.go:50", after := #[{ on := 10, ground := Ground.data }, { on := 9, ground := Ground.chain }, { on := 9, ground := Ground.guard }], guard := some (9, false) }) rfl (fun K hK => ?_) AllReadyH.nil
          go_simp
          refine (widle_any r7 _ (wat_below HW7.out hk)).mono ?_
          rintro e9 w9 ⟨rfl, hw9⟩
          rw [hw9]
          clear hw9
          rw [HID7.out]
          refine hK.out _ _ hk (fun _ => ?_)
          clear hK K
          try simp only [Act.put, List.setIfInBounds_toArray, List.set_cons_zero, List.set_cons_succ]
          refine wpAnyH_take (i := 18) (oi := { dst := some 107, op := Op.binOp BinOp.neq 4 (Operand.tmp 100) (Operand.tmp 106) 4, type := 4, pos := "law.go:50", after := #[{ on := 11, ground := Ground.data }, { on := 17, ground := Ground.data }, { on := 9, ground := Ground.guard }], guard := some (9, false) }) (v := ?vwst1515) rfl (by kernel_rfl) (by kernel_rfl) (by kernel_rfl) (fun _ _ _ h => h) (Or.inl ⟨by rfl, ?ywst1515⟩) hk ?rwst1515
          case ywst1515 => (intro w hSw; (try dsimp only at hSw); go_simp; first | done | with_reducible rfl)
          simp only [Act.put, List.setIfInBounds_toArray, List.set_cons_zero, List.set_cons_succ]
          refine wpAnyH_take (i := 19) (oi := { dst := some 108, op := Op.pick (Operand.tmp 98) (Operand.const (Value.bool true)) (Operand.tmp 107), type := 4, pos := "law.go:50", after := #[{ on := 9, ground := Ground.data }, { on := 18, ground := Ground.data }], guard := none }) (v := ?vwst1516) rfl (by kernel_rfl) (by kernel_rfl) (by kernel_rfl) (fun _ _ _ h => h) (Or.inl ⟨by rfl, ?ywst1516⟩) hk ?rwst1516
          case ywst1516 => (intro w hSw; (try dsimp only at hSw); go_simp; first | done | with_reducible rfl)
          simp only [Act.put, List.setIfInBounds_toArray, List.set_cons_zero, List.set_cons_succ]
          refine wpAnyH_done (by decide +kernel) ?_ _
          have HS8 := Bx.mk (HT7.out.below hk)
          clear HT7 HRP HRQ HBP HBQ HC7 HID7 HGX7 HW7 hb0 q1
          go_wp2
          go_roundw
          case rel => exact ⟨k + 1, o4, o2, r7, by omega, by go_num, HS8⟩
          case measure => simp [intOf]; omega
    · have hge : ¬ (k : Int) < (len : Int) := by omega
      have HB7 := Bx.mk HS.out.bel
      go_wp2_with fail
      refine (wlives_any _ (HEV.out.up HB7.out)).mono ?_
      rintro e w8 ⟨rfl, hb8⟩
      have HFIN := Bx.mk (bstep HB7.out hb8)
      clear hb8
      go_wp2
      go_ret
      exact ⟨rfl, HFIN.out⟩

set_option maxRecDepth 100000 in
/-- what the walk gives, for every argument and every world that holds the table -/
theorem contract (H : Type) (enc : TypeId × Value → H) (W : World) (base : Nat) (args : Array Value) (ds gs : List (DataW H)) (before : List MemPlace)
    (hval0 : ∀ (j : Nat) t v, Tryz.f4.params[j]? = some t → args[j]? = some v → Value.okWide Tryz.prog W .any base t v)
    (hW : DataW.Whole enc Tryz.prog Tryz.f4.params.toList Rows.wireStepsSpec.vars false W args.toList ds gs before) (hL : laidMetH Tryz.prog Rows.wireStepsRow.laid W) (hsh : W.ShapedOpen Tryz.prog) :
    Calls Tryz.prog 4 args W fun e W' => ∃ v, e = .returned v ∧ Rows.wireStepsSpec.post enc Tryz.prog Tryz.f4 false true false false W args v W' := by
  have hval : ∀ (j : Nat) t v, Tryz.f4.params[j]? = some t → args[j]? = some v → Value.okWide Tryz.prog W .any base t v := hval0
  have hW' := hW
  obtain ⟨p, q, hA0, hV, rfl, hfz, hnd⟩ := hW
  have hA : DataW.TrodAll enc Tryz.prog W 0 (fun _ => true) true Tryz.f4.params.toList args.toList ds p := hA0
  rw [Tryz.params4] at hA hval
  obtain ⟨v0, vs0, d0, ds0, p0, q0, hargs, rfl, rfl, h0, r0⟩ := trodAll_cons hA
  obtain ⟨v1, vs1, d1, ds1, p1, q1, rfl, rfl, rfl, h1, r1⟩ := trodAll_cons r0
  obtain ⟨rfl, rfl, rfl⟩ := trodAll_nil r1
  obtain rfl : args = #[v0, v1] := by cases args; simp_all
  obtain ⟨rfl, rfl⟩ := trodVars_none hV
  obtain ⟨a0, len0, cap0, rfl⟩ := okWide_slice Tryz.underlying22 (hval 0 22 v0 rfl rfl)
  obtain ⟨a1, len1, cap1, rfl⟩ := okWide_slice Tryz.underlying36 (hval 1 36 v1 rfl rfl)
  have k0 := h0
  have lt0 : ∀ x ∈ p0, x.block < W.heap.size := by obtain ⟨m, hm⟩ := k0; exact DataW.trod_lt m _ _ _ hm
  have k1 := h1
  have lt1 : ∀ x ∈ p1, x.block < W.heap.size := by obtain ⟨m, hm⟩ := k1; exact DataW.trod_lt m _ _ _ hm
  obtain ⟨l, hl⟩ := open_byt h0
  obtain ⟨K, hK⟩ := open_bls h1
  clear hA0 hval0
  refine (walk a0 len0 cap0 l a1 len1 cap1 K W hl hK hL hsh).mono fun e W' ⟨he, bel⟩ => ?_
  subst he
  exact ⟨_, rfl, _, _, _, [], _, [], hW', trodAll_mk1 (shut_bool Tryz.underlying4 _), (trodAll_cons_mk (Below.trod laidOut (by kernel_rfl) (of_decide_eq_true (by kernel_rfl)) k0 bel lt0) (trodAll_cons_mk (Below.trod laidOut (by kernel_rfl) (of_decide_eq_true (by kernel_rfl)) k1 bel lt1) trodAll_mk0)), rfl, bel.frame _, fun h => by cases h⟩

set_option maxRecDepth 100000 in
theorem laid_met (os : Os) : laidMet Tryz.prog Rows.wireStepsRow.laid ((World.laidAll Tryz.prog os Rows.wireStepsRow.laid).forCall (fun _ _ => 0) ⟨#[], #[.slice none 0 0, .slice none 0 0], []⟩).memory :=
  laidMet_laidAll _ (by kernel_rfl) (by kernel_rfl)
set_option maxRecDepth 100000 in
theorem reads (os : Os) {H : Type} (enc : TypeId × Value → H) : ∃ places, DataW.whole enc Tryz.prog ((World.laidAll Tryz.prog os Rows.wireStepsRow.laid).forCall (fun _ _ => 0) ⟨#[], #[.slice none 0 0, .slice none 0 0], []⟩).memory Tryz.f4.params.toList Rows.wireStepsSpec.vars false (#[.slice none 0 0, .slice none 0 0] : Array Value).toList 8 = some ([.nil, .nil], [], places) :=
  ⟨[], by kernel_rfl⟩
set_option maxRecDepth 100000 in
theorem lifted (os : Os) (started : os.Started) (H : Type) (enc : TypeId × Value → H) (F : Stop.Interp) :
    ReturnsInHanded {} Tryz.checked os 4 .any ((OpenSpec.ofChange Rows.wireStepsSpec).preRow enc Tryz.prog Tryz.f4 Rows.wireStepsRow.domain false Rows.wireStepsRow.laid) (((OpenSpec.ofChange Rows.wireStepsSpec).at F).post enc Tryz.prog Tryz.f4 false true false false) := by
  obtain ⟨places, hx⟩ := reads os enc
  refine returnsInHanded_of_row (C := Tryz.checked) (s := OpenSpec.ofChange Rows.wireStepsSpec) own started (by kernel_rfl) Tryz.func4
    (witness_row_zip (enc := enc) (C := Tryz.checked) false (World.laidAll Tryz.prog os Rows.wireStepsRow.laid) #[.slice none 0 0, .slice none 0 0] (World.laidAll_os _ _ _) (World.shaped_of_ZipB (by kernel_rfl) (by kernel_rfl)) (by kernel_rfl)
      (OpenSpec.preRow_of_cond 8 hx (by kernel_rfl) (fun k hk => by cases hk) (by kernel_rfl) (laid_met os))) ?_
  intro W base args ds gs before hval hW _ _ _ hL hsh _
  exact contract H enc W base args ds gs before hval hW hL hsh
theorem said : Rows.WireStepsSaid :=
  OpenClaim.holds_of_cond 4 Tryz.f4 rfl rfl rfl rfl rfl rfl rfl ⟨rfl, rfl, rfl, rfl, rfl⟩ rfl rfl rfl rfl rfl (by kernel_rfl) Tryz.func4 (by kernel_rfl)
    (of_decide_eq_true (by kernel_rfl)) (by unfold Func.isWrapper; first | (rw [if_pos (by decide +kernel)]; kernel_rfl) | (rw [if_neg (by decide +kernel)]; exact ⟨rfl, rfl⟩))
    (fun os started H enc _ F => by rw [OpenClaim.pre_eq_preRow]; exact lifted os started H enc F)
theorem plain (f : FuncId) (fn : Func) (hf : Tryz.pinned.checked.prog.funcNamed "inquest/inquestlaw13.WireSteps" = some f) (hfn : Tryz.pinned.checked.prog.funcs[f]? = some fn) :
    true = Tryz.pinned.checked.prog.looks [] ∧ ∀ (j : Nat) t, fn.params[j]? = some t → Tryz.pinned.checked.prog.wantsStandIn t = false := by
  obtain rfl : f = 4 := Option.some.inj ((show Tryz.prog.funcNamed "inquest/inquestlaw13.WireSteps" = some 4 by kernel_rfl).symm.trans hf) |>.symm
  obtain rfl : fn = Tryz.f4 := (Option.some.inj (Tryz.func4.symm.trans hfn)).symm
  refine ⟨by kernel_rfl, fun j t ht => ?_⟩
  rw [Tryz.params4] at ht
  have hall : ([22, 36].all fun u => !Tryz.prog.wantsStandIn u) = true := by kernel_rfl
  have hm : t ∈ [22, 36] := by simpa using Array.mem_of_getElem? ht
  exact (show Tryz.prog.wantsStandIn t = false by simpa using List.all_eq_true.1 hall t hm)
/-- the tied card -/
theorem card : Rows.WireStepsCardSaid :=
  Claim7.holds_tied_plain_at .later [] _ _ _ _ said (fun _ h => by cases h) (by kernel_rfl) (fun _ h => by cases h) wireSteps_row_tie rfl ⟨rfl, rfl⟩ (by kernel_rfl) rfl plain (by kernel_rfl)
end Go.Proofs.YtdameoejigpnhaaGreatDoor.wireSteps
namespace Go.Proofs.YtdameoejigpnhaaGreatDoor
theorem wireSteps_holds : Rows.WireStepsCardSaid := wireSteps.card
#print axioms wireSteps_holds
end Go.Proofs.YtdameoejigpnhaaGreatDoor
