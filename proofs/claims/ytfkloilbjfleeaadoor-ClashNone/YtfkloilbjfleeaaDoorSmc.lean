/- What take does to a hash. What New, Count and Add answer. What a hash's Sum answers. What Sum answers; and that the law's own question 'is anything summed at all' is answered yes. -/
import Derived.Test.YtfkloilbjfleeaaDoorHashMath
import Derived.Test.YtfkloilbjfleeaaDoorSmb
import Derived.Test.YtfkloilbjfleeaaDoorPad
namespace Go.Proofs.YtfkloilbjfleeaaDoor
open Go.RowKit
set_option linter.unusedVariables false

/-- the hash of the bytes l lies in the block g -/
def HashAt (w : World) (g : Nat) (l : List Int) : Prop :=
  ∃ r, Rst l r ∧ w.heap[g]? = some (.cells (hcl (chn l (l.length / 64)) r l.length).toArray 94 (0, 0))
theorem HashAt.of_block {w w' : World} {g : Nat} {l : List Int} (h : HashAt w g l) (hb : w'.heap[g]? = w.heap[g]?) : HashAt w' g l := by
  obtain ⟨r, h1, h2⟩ := h
  exact ⟨r, h1, hb.trans h2⟩
theorem HashAt.lt {w : World} {g : Nat} {l : List Int} (h : HashAt w g l) : g < w.heap.size := by
  obtain ⟨r, _, h2⟩ := h
  exact (Array.getElem?_eq_some_iff.1 h2).1
theorem rest_slice (g c : Nat) (hc : c < 64) (w : World) : (Instr.sliceAt 78 (.pointer (some ⟨g, 9, none⟩)) (some (.int .i64 (c : Int))) none none).run Tryd.prog w = .ok (.slice (some ⟨g, 9 + c, none⟩) (64 - c) (64 - c)) w := by
  have hlen : Tryd.prog.arrayLen 78 = 64 := by kernel_rfl
  have ht : Tryd.prog.underlying 78 = some (.array (Tryd.prog.arrayLen 78) (Tryd.prog.elem 78)) := by kernel_rfl
  have hsz : (sizeOf (Tryd.prog.elem 78)).run Tryd.prog w = .ok 1 w := by kernel_rfl
  rw [run_sliceAt_array_l w 78 ⟨g, 9, none⟩ ht .i64 _ (by omega) (by rw [hlen]; omega), hsz, hlen]
  simp only [Result.andThen_ok, slicedAt, Int.toNat_natCast]
  rw [if_neg (by omega), Addr.add_lit]
  simp
theorem hash_count {w : World} {g n : Nat} {s : St} {r : List Int} {t : TypeId} (h : w.heap[g]? = some (.cells (hcl s r n).toArray t (0, 0))) (hr : r.length = 64) : w.cell? ⟨g, 73, none⟩ = some (.int .i64 n) := by
  rw [cell_of_row w g 73 _ t (0, 0) h, List.getElem?_toArray]; exact hcl_getN s r n hr
theorem hash_st {w : World} {g n : Nat} {s : St} {r : List Int} {t : TypeId} (h : w.heap[g]? = some (.cells (hcl s r n).toArray t (0, 0))) :
    w.cell? ⟨g, 1, none⟩ = some (.int .u32 s.a) ∧ w.cell? ⟨g, 2, none⟩ = some (.int .u32 s.b) ∧ w.cell? ⟨g, 3, none⟩ = some (.int .u32 s.c) ∧ w.cell? ⟨g, 4, none⟩ = some (.int .u32 s.d) ∧
    w.cell? ⟨g, 5, none⟩ = some (.int .u32 s.e) ∧ w.cell? ⟨g, 6, none⟩ = some (.int .u32 s.f) ∧ w.cell? ⟨g, 7, none⟩ = some (.int .u32 s.g) ∧ w.cell? ⟨g, 8, none⟩ = some (.int .u32 s.h) := by
  refine ⟨?_, ?_, ?_, ?_, ?_, ?_, ?_, ?_⟩ <;> rw [cell_of_row w g _ _ t (0, 0) h] <;> rfl
theorem hash_free {w : World} {g : Nat} {cs : Array Value} {t : TypeId} (h : w.heap[g]? = some (.cells cs t (0, 0))) :
    w.frozen? ⟨g, 1, none⟩ = false ∧ w.frozen? ⟨g, 2, none⟩ = false ∧ w.frozen? ⟨g, 3, none⟩ = false ∧ w.frozen? ⟨g, 4, none⟩ = false ∧
    w.frozen? ⟨g, 5, none⟩ = false ∧ w.frozen? ⟨g, 6, none⟩ = false ∧ w.frozen? ⟨g, 7, none⟩ = false ∧ w.frozen? ⟨g, 8, none⟩ = false := by
  refine ⟨?_, ?_, ?_, ?_, ?_, ?_, ?_, ?_⟩ <;> exact frozen_of_row _ _ _ _ _ h
/-- what a load of 64 bytes at this place reads -/
def rowOf (w : World) : Value → Array Value
  | .pointer (some ⟨b, o, _⟩) => match w.heap[b]? with
    | some (.cells cs _ _) => cs.extract o (o + 64)
    | _ => #[]
  | _ => #[]
def RowOk (w : World) (v : Value) : Prop := ∃ b o cs t, v = .pointer (some ⟨b, o, none⟩) ∧ w.heap[b]? = some (.cells cs t (0, 0)) ∧ o + 64 ≤ cs.size
theorem wp_load64 {dst : Option Tmp} {ty : TypeId} {pos : String} {after : Array Edge} {guard : Option (Nat × Bool)} {x : Operand} {a : Act} {w : World} {K : Act → World → Prop} {Q : Exit → Act → World → Prop} (h : RowOk w (a.eval x)) :
    Oper.wp Tryd.prog { dst := dst, op := .load 78 x, type := ty, pos := pos, after := after, guard := guard } a w K Q = K (a.put dst (.agg (rowOf w (a.eval x)))) w := by
  obtain ⟨b, o, cs, t, hv, hh, hs⟩ := h
  have hr := World.rangeAt_of_block hh o 64
  have hrun := run_loadAt_mid (P := Tryd.prog) w b o 78 _ _ hr Tryd.underlying78 rfl (by rw [Array.length_toList, Array.size_extract, Nat.min_eq_left hs, Nat.add_sub_cancel_left]; exact in_info)
  have e : rowOf w (a.eval x) = (cs.extract o (o + 64)).toList.toArray := by rw [hv]; simp only [rowOf, hh]
  rw [e]
  unfold Oper.wp execOp
  simp only [hv, Sem.run_bind, Sem.run_pure, hrun, Result.andThen_ok]
  rfl
theorem hash_ok {w : World} {g n : Nat} {s : St} {r : List Int} {t : TypeId} (h : w.heap[g]? = some (.cells (hcl s r n).toArray t (0, 0))) (hr : r.length = 64) : RowOk w (.pointer (some ⟨g, 9, none⟩)) :=
  ⟨g, 9, _, t, rfl, h, by rw [List.size_toArray, hcl_length s r n hr]; decide⟩
theorem hash_row {w : World} {g n : Nat} {s : St} {r : List Int} {t : TypeId} (h : w.heap[g]? = some (.cells (hcl s r n).toArray t (0, 0))) (hr : r.length = 64) : rowOf w (.pointer (some ⟨g, 9, none⟩)) = (bv r).toArray := by
  simp only [rowOf, h]
  apply Array.ext_getElem?
  intro j
  rw [Array.getElem?_extract, List.size_toArray, hcl_length s r n hr, List.getElem?_toArray, List.getElem?_toArray]
  by_cases hj : j < 64
  · rw [if_pos (by omega), hcl_getR s r n j (by omega)]
  · rw [if_neg (by omega), List.getElem?_eq_none (by rw [bv_length]; omega)]
theorem block_lit (s : St) (b : List Int) (t : St) (ht : t = blk s b) (w : World) (hs : StU s) (hb : Byt b) (hl : b.length = 64) (htab : Tab w) :
    Calls Tryd.prog 70 #[.agg #[.int .u32 s.a, .int .u32 s.b, .int .u32 s.c, .int .u32 s.d, .int .u32 s.e, .int .u32 s.f, .int .u32 s.g, .int .u32 s.h], .agg (bv b).toArray] w fun e w' => e = .returned (.agg #[.int .u32 t.a, .int .u32 t.b, .int .u32 t.c, .int .u32 t.d, .int .u32 t.e, .int .u32 t.f, .int .u32 t.g, .int .u32 t.h]) ∧ Below w.heap.size w w' := by
  subst ht; exact block_any s b w hs hb hl htab
theorem count_mod (n : Nat) : ((n : Int)).tmod 64 = ((n % 64 : Nat) : Int) := by
  rw [Int.tmod_eq_emod_of_nonneg (by omega)]; omega
theorem take_min {len c : Nat} {x : List Int} (h : x.length = min len (64 - c)) : (bv x).length = Nat.min len (64 - c) := by rw [bv_length, h]
theorem Tab.but {g : Nat} {w w' : World} (h : Tab w) (hb : But g w w') (hg : 0 < g) : Tab w' :=
  ⟨Nat.lt_of_lt_of_le h.pos hb.size, fun i hi => (World.cell?_of_block (w := w) (hb.block 0 h.pos (by omega))).trans (h.cell i hi)⟩

attribute [local go_sem ↓] wp_load64
set_option maxRecDepth 100000 in
set_option maxHeartbeats 1000000 in
theorem take_any (g : Nat) (l m : List Int) (a : Option Addr) (len cap : Nat) (w : World) (hh : HashAt w g l) (hm : Bts w a len cap m) (ha : 0 < len → ∀ p, a = some p → p.block ≠ g) (hg : 0 < g) (htab : Tab w) (hbd : l.length + len ≤ 4611686018427387904) :
    Calls Tryd.prog 52 #[.pointer (some ⟨g, 0, none⟩), .slice a len cap] w fun e w' => (∃ v, e = .returned v) ∧ HashAt w' g (l ++ m) ∧ But g w w' := by
  go_enter Tryd.func52, Tryd.ntmps52
  go_wp2
  go_loopw [1] (fun v wr => ∃ k a' len' cap', v = .slice a' len' cap' ∧ k + len' = len ∧ Bts wr a' len' cap' (m.drop k) ∧ HashAt wr g (l ++ m.take k) ∧ But g w wr ∧ (0 < len' → ∀ p, a' = some p → p.block ≠ g)) (fun v _ => lenOf v)
  case atStart => exact ⟨0, a, len, cap, rfl, by omega, hm, by rw [List.take_zero, List.append_nil]; exact hh, But.refl _ _, ha⟩
  case round =>
    obtain ⟨k, a', len', cap', rfl, hk, hm', ⟨r, hr, hrow⟩, hbut, ha'⟩ := hrel
    by_cases hlt : 0 < len'
    · have hL : Hid ((l ++ m.take k).length = l.length + k) := by
        show _ = _
        have := hm.len_eq
        rw [List.length_append, List.length_take]; omega
      obtain ⟨sb, so, rfl, hsb, hsc⟩ := hm'.spot hlt
      have hne := ha' hlt _ rfl
      have hsrc := hm'.cells
      obtain ⟨L, hLd⟩ : ∃ L, L = l.length + k := ⟨_, rfl⟩
      have hLen : (l ++ m.take k).length = L := by rw [hLd]; exact hL.out
      have hLb : L + len' ≤ 4611686018427387904 := by omega
      obtain ⟨q, hq⟩ : ∃ q, q = min len' (64 - L % 64) := ⟨_, rfl⟩
      have hq1 : 1 ≤ q := by omega
      have hq2 : q ≤ len' := by omega
      have hq3 : L % 64 + q ≤ 64 := by omega
      have hx : ((m.drop k).take q).length = q := by rw [List.length_take, hm'.len_eq]; omega
      have hxb : Byt ((m.drop k).take q) := hm'.byt.take q
      have hxs : ∀ j v, (bv ((m.drop k).take q))[j]? = some v → wr.cell? ((⟨sb, so, none⟩ : Addr).add j) = some v := by
        intro j v hv
        refine hsrc j v ?_
        have hj : j < q := by have := (List.getElem?_eq_some_iff.1 hv).1; rw [bv_length, hx] at this; exact this
        rw [← hv]; unfold bv; rw [List.map_take, List.getElem?_take, if_pos hj]
      have HN : Hid (l ++ m.take (k + q) = (l ++ m.take k) ++ (m.drop k).take q) := by
        show _ = _; rw [List.append_assoc, List.take_add]
      have HD : Hid ((m.drop k).drop q = m.drop (k + q)) := by show _ = _; rw [List.drop_drop]
      have hLd' : Hid (L = l.length + k) := hLd
      rw [hLen] at hrow
      obtain ⟨l', hl'⟩ : ∃ l', l' = l ++ m.take k := ⟨_, rfl⟩
      rw [← hl'] at hLen hr hrow HN
      obtain ⟨x, hxd⟩ : ∃ x, x = (m.drop k).take q := ⟨_, rfl⟩
      rw [← hxd] at hx hxb hxs HN
      have HL' : Hid (l'.length = L) := hLen
      have hcnt := hash_count hrow hr.len
      have hmod := count_mod L
      have hsl := rest_slice g (L % 64) (by omega)
      have Hfit : Hid (9 + L % 64 + (bv x).length ≤ (hcl (chn l' (L / 64)) r L).length) := by show _ ≤ _; rw [hcl_length _ _ _ hr.len, bv_length, hx]; omega
      have Hmin : Hid ((bv x).length = Nat.min len' (64 - L % 64)) := take_min (by rw [hx, hq])
      have Hone : Hid (∀ v ∈ bv x, v.oneCell' = true) := bv_one x
      have Hspl : Hid (splice (hcl (chn l' (L / 64)) r L) (9 + L % 64) (bv x) = hcl (chn l' (L / 64)) (splice r (L % 64) x) L) := hcl_splice _ _ _ _ _ (by rw [hr.len, hx]; exact hq3)
      have Hxl : Hid ((bv x).length = q) := by show _ = _; rw [bv_length, hx]
      have hr64 : Hid ((splice r (L % 64) x).length = 64) := by
        show _ = _
        have := splice_len hr x (by rw [HL'.out, hx]; exact hq3)
        rw [HL'.out] at this; exact this
      have hrst := hr
      have Hsb : Hid (∀ j v, (bv x)[j]? = some v → wr.cell? ((⟨sb, so, none⟩ : Addr).add j) = some v) := hxs
      clear hsrc hxs hl' hxd hLd hsc hLen
      obtain ⟨c, hc⟩ : ∃ c, c = L % 64 := ⟨_, rfl⟩
      have HC : Hid (c = L % 64) := hc
      rw [← hc] at hmod hsl Hfit Hmin Hspl hr64 hq3
      obtain ⟨cur, hcur⟩ : ∃ cur, cur = hcl (chn l' (L / 64)) r L := ⟨_, rfl⟩
      have HCur : Hid (cur = hcl (chn l' (L / 64)) r L) := hcur
      rw [← hcur] at hrow Hfit Hspl
      obtain ⟨X, hX⟩ : ∃ X, X = bv x := ⟨_, rfl⟩
      rw [← hX] at Hfit Hmin Hone Hspl Hxl Hsb
      clear hc hcur hX hq
      go_wp2
      go_region_held3 (fun w' => w'.cell? ⟨g, 73, none⟩ = some (.int .i64 (L : Int))) (first | (exact hcnt) | (exact hash_count (Eq.trans hg2.out (congrArg (fun l => some (Obj.cells (List.toArray l) 94 (0, 0))) Hspl.out)) hr64.out)) ((refine step_copy_but rfl (.tmp 16) (.tmp 17) 22 22 rfl 5 Tryd.underlying22 Tryd.size5 g (9 + c) (64 - c) (64 - c) ⟨sb, so, none⟩ len' cap' (by rfl) (by rfl) cur 94 hrow X Hmin.out Hsb.out Hfit.out Hone.out ?_; intro w2 hg2 hbut2))
      rename_i hHeld
      have hrow2 : w2.heap[g]? = some (.cells (hcl (chn l' (L / 64)) (splice r c x) L).toArray 94 (0, 0)) := hg2.out.trans (congrArg (fun l => some (Obj.cells (List.toArray l) 94 (0, 0))) Hspl.out)
      have hfr2 := frozen_of_row _ _ 73 _ _ hrow2
      have hbut3 : But g wr w2 := (But.drewN (But.refl g wr) 1).trans hbut2
      have hrow3 := heap_setCell_same w2 g 73 _ _ (.int .i64 ((L + q : Nat) : Int)) hrow2
      have hset : (hcl (chn l' (L / 64)) (splice r c x) L).toArray.setIfInBounds 73 (.int .i64 ((L + q : Nat) : Int)) = (hcl (chn l' (L / 64)) (splice r c x) (L + q)).toArray := by
        rw [List.setIfInBounds_toArray, hcl_count _ _ _ _ hr64.out]
      rw [hset] at hrow3
      have hbut4 := hbut3.setCell 73 (.int .i64 ((L + q : Nat) : Int))
      have hcast : ((L + q : Nat) : Int) = (L : Int) + (q : Int) := by omega
      rw [hcast] at hrow3 hbut4
      have hLq : (L : Int) + (q : Int) ≤ 4611686018427387904 := by omega
      have hLq0 : (0 : Int) ≤ (L : Int) + (q : Int) := by omega
      have q0 : (0 : Int) ≤ (q : Int) := by omega
      have q1 : (q : Int) ≤ (len' : Int) := by omega
      rw [Hxl.out]
      have hm2 := hm'.but (hbut3) ha'
      clear hcnt hsl hmod hrow hg2 hbut2 hset hcast Hsb Hfit Hmin Hspl Hxl Hone HCur hm'
      obtain ⟨w3, hw3⟩ : ∃ w3, w3 = w2.setCell ⟨g, 73, none⟩ (.int .i64 ((L : Int) + (q : Int))) := ⟨_, rfl⟩
      have HW3 : Hid (w3 = w2.setCell ⟨g, 73, none⟩ (.int .i64 ((L : Int) + (q : Int)))) := hw3
      rw [← hw3] at hrow3 hbut4
      have hcnt3 := hash_count hrow3 hr64.out
      rw [Int.natCast_add] at hcnt3
      have hm3 : Bts w3 (some ⟨sb, so, none⟩) len' cap' (m.drop k) := hm2.but (by rw [hw3]; exact (But.refl g w2).setCell 73 _) ha'
      have hmB : Bts w3 (some ⟨sb, so + q, none⟩) (len' - q) (cap' - q) (m.drop (k + q)) := by rw [← HD.out]; exact hm3.tail hq2
      have hmA : Hid (cap' = q → Bts w3 (some ⟨sb, so, none⟩) (len' - q) 0 (m.drop (k + q))) := by
        intro hcq
        have hle := hm3.le_cap
        have hln := hm3.len_eq
        rw [← HD.out, show len' - q = 0 from by omega]
        exact Bts.none (List.drop_eq_nil_of_le (by omega))
      have hbut5 : But g w w3 := hbut.trans hbut4
      have hbm : Hid ((c + q = 64) ↔ ((L : Int) + (q : Int)) % 64 = 0) := by have := HC.out; show _ ↔ _; omega
      clear hw3 hm2 hm3 hrow2 hbut3 hbut4
      by_cases hfull : c + q = 64
      · have hbool : ((((L : Int) + (q : Int)) % 64) == 0) = true := by simpa using hbm.out.1 hfull
        have hcl := hrst.full hxb (by rw [HL'.out, hx]; have := HC.out; omega)
        rw [HL'.out, ← HC.out] at hcl
        have HE := hcl.2
        obtain ⟨s, hs⟩ : ∃ s, s = chn l' (L / 64) := ⟨_, rfl⟩
        obtain ⟨t, ht⟩ : ∃ t, t = blk s (splice r c x) := ⟨_, rfl⟩
        have hsu : StU s := by rw [hs]; exact chn_u _ _
        have HR : Hid (Rst (l' ++ x) (splice r c x)) := hcl.1
        rw [← hs, ← ht] at HE
        replace HE : Hid (chn (l' ++ x) ((l' ++ x).length / 64) = t) := HE
        rw [← hs] at hrow3
        have HT : Hid (t = blk s (splice r c x)) := ht
        have hrb := hcl.1.byt
        have HLX : Hid ((l' ++ x).length = L + q) := by show _ = _; rw [List.length_append, HL'.out, hx]
        clear hs ht hcl
        go_wp2
        all_goals
          rw [← HW3.out]
          obtain ⟨c1, c2, c3, c4, c5, c6, c7, c8⟩ := hash_st hrow3
          have hok := hash_ok (w := w3.drew) hrow3 hr64.out
          have hrw := hash_row (w := w3.drew) hrow3 hr64.out
          have hglt : g < w3.drew.heap.size := (Array.getElem?_eq_some_iff.1 hrow3).1
          have hrow3' : w3.drew.heap[g]? = some (.cells (hcl s (splice r c x) (L + q)).toArray 94 (0, 0)) := hrow3
          have ht3 : Tab w3.drew := (htab.but hbut5 hg).drewN 1
          generalize splice r c x = R at *
          go_region_law ((go_simp; refine (block_lit s R t HT.out _ hsu hrb hr64.out ht3).mono ?_; rintro e1 w4 ⟨rfl, hb4⟩; have hrow4 := (hb4.block g hglt).trans hrow3'; obtain ⟨d1, d2, d3, d4, d5, d6, d7, d8⟩ := hash_st hrow4; obtain ⟨f1, f2, f3, f4, f5, f6, f7, f8⟩ := hash_free hrow4))
          all_goals
            have hrow5 := heap_set_splice (o := 1) (vs := uv t.list) hrow4 (by rw [hcl_length _ _ _ hr64.out]; show 1 + 8 ≤ 74; decide)
            rw [hcl_state] at hrow5
            have hb35 : But g w3 (w4.setCells g 1 (uv t.list)) := (((But.refl g w3).drewN 1).trans (But.of_below hb4)).setCells _ _
            change Exit.inBlock 1 _ Exit.normal _ (w4.setCells g 1 (uv t.list))
            generalize w4.setCells g 1 (uv t.list) = w5 at hrow5 hb35 ⊢
            have hash5 : HashAt w5 g (l' ++ x) := ⟨R, HR.out, by rw [HE.out, HLX.out]; exact hrow5⟩
            rw [← HN.out] at hash5
            have hmB5 := hmB.but hb35 (fun _ p hp => by cases hp; exact hne)
            have hmA5 : Hid (cap' = q → Bts w5 (some ⟨sb, so, none⟩) (len' - q) 0 (m.drop (k + q))) := fun hc => (hmA.out hc).but hb35 (fun _ p hp => by cases hp; exact hne)
            have hbut6 := hbut5.trans hb35
            clear c1 c2 c3 c4 c5 c6 c7 c8 d1 d2 d3 d4 d5 d6 d7 d8 f1 f2 f3 f4 f5 f6 f7 f8 hok hrw hrow5 hrow4 hb4 hrow3 hrow3' hb35 hmB
            go_wp2
            go_roundw
            case rel => first | exact ⟨k + q, _, _, _, rfl, by omega, hmA5.out h, hash5, hbut6, fun _ p hp => by cases hp; exact hne⟩ | exact ⟨k + q, _, _, _, rfl, by omega, hmB5, hash5, hbut6, fun _ p hp => by cases hp; exact hne⟩
            case measure => simp [lenOf]; omega
      · have hbool : ((((L : Int) + (q : Int)) % 64) == 0) = false := by simpa using fun h => hfull (hbm.out.2 h)
        have hopen := hrst.open hxb (by rw [HL'.out, hx]; have := HC.out; omega)
        rw [HL'.out, ← HC.out] at hopen
        have hhash : HashAt w3 g (l' ++ x) := ⟨splice r c x, hopen.1, by rw [hopen.2, List.length_append, HL'.out, hx]; exact hrow3⟩
        rw [← HN.out] at hhash
        clear hopen hrow3 hcnt3
        by_cases hcq : cap' = q
        · have hmA' := hmA.out hcq
          go_wp2
          rw [← HW3.out]
          go_roundw
          case rel => exact ⟨k + q, _, _, _, rfl, by omega, hmA', hhash, hbut5, fun _ p hp => by cases hp; exact hne⟩
          case measure => simp [lenOf]; omega
        · go_wp2
          rw [← HW3.out]
          go_roundw
          case rel => exact ⟨k + q, _, _, _, rfl, by omega, hmB, hhash, hbut5, fun _ p hp => by cases hp; exact hne⟩
          case measure => simp [lenOf]; omega
    · have hz : len' = 0 := by omega
      have HF : Hid (l ++ m.take k = l ++ m) := by
        show _ = _
        rw [List.take_of_length_le (by rw [hm.len_eq]; omega)]
      have hash : HashAt wr g (l ++ m) := by rw [← HF.out]; exact ⟨r, hr, hrow⟩
      subst hz
      clear hrow hm' HF
      go_wp2
      go_end0
      exact ⟨⟨_, rfl⟩, hash, hbut⟩
end Go.Proofs.YtfkloilbjfleeaaDoor
namespace Go.Proofs.YtfkloilbjfleeaaDoor
open Go.RowKit
set_option linter.unusedVariables false

set_option maxRecDepth 100000 in
set_option maxHeartbeats 400000 in
theorem new_any (w : World) :
    Calls Tryd.prog 51 #[] w fun e w' => ∃ g, e = .returned (.pointer (some ⟨g, 0, none⟩)) ∧ HashAt w' g [] ∧ w.heap.size ≤ g ∧ Below w.heap.size w w' := by
  go_enter Tryd.func51, Tryd.ntmps51
  go_wp2_with fail
  refine (first_any _).mono ?_
  rintro e w1 ⟨rfl, hb1⟩
  have hsz := hb1.size
  have HB : Bx (Below w.heap.size w (w1.alloc (.cells (hcl st0 (List.replicate 64 0) 0).toArray 94))) := ⟨hb1.alloc hb1.size _⟩
  have HH : Bx (HashAt (w1.alloc (.cells (hcl st0 (List.replicate 64 0) 0).toArray 94)) w1.heap.size []) := ⟨⟨_, rst_nil, heap_alloc_new _ _⟩⟩
  clear hb1
  simp only []
  go_step
  refine wpList_run rfl (.agg (hcl st0 (List.replicate 64 0) 0).toArray) w1 (by kernel_rfl) ?_
  generalize (hcl st0 (List.replicate 64 0) 0).toArray = A at HB HH ⊢
  go_wp2
  go_ret
  exact ⟨_, rfl, HH.out, hsz, HB.out⟩

theorem hash_made {w : World} {g n : Nat} {s : St} {r : List Int} {t : TypeId} (h : w.heap[g]? = some (.cells (hcl s r n).toArray t (0, 0))) : w.cell? ⟨g, 0, none⟩ = some (.bool true) := by
  rw [cell_of_row w g 0 _ t (0, 0) h]; rfl
end Go.Proofs.YtfkloilbjfleeaaDoor
namespace Go.Proofs.YtfkloilbjfleeaaDoor
open Go.RowKit
set_option linter.unusedVariables false

/-- the bytes of the first j numbers, and noughts up to 32 bytes -/
def digP (l : List Int) (j : Nat) : List Int := digL (l.take j) ++ List.replicate (32 - 4 * j) 0
theorem digL_app (l m : List Int) : digL (l ++ m) = digL l ++ digL m := by
  induction l with
  | nil => rfl
  | cons x r ih => simp [digL, ih]
theorem digP_length (l : List Int) (j : Nat) (hl : l.length = 8) (hj : j ≤ 8) : (digP l j).length = 32 := by
  unfold digP; rw [List.length_append, digL_length, List.length_take, List.length_replicate]; omega
theorem digP_zero (l : List Int) : digP l 0 = List.replicate 32 0 := rfl
theorem digP_end (l : List Int) (hl : l.length = 8) : digP l 8 = digL l := by
  unfold digP; rw [List.take_of_length_le (by omega)]; simp
theorem digP_splice (l : List Int) (j : Nat) (hl : l.length = 8) (hj : j < 8) : splice (bv (digP l j)) (4 * j) (bv (putL (l.getD j 0) 4)) = bv (digP l (j + 1)) := by
  have e1 : (digL (l.take j)).length = 4 * j := by rw [digL_length, List.length_take]; omega
  have e2 : digL (l.take (j + 1)) = digL (l.take j) ++ putL (l.getD j 0) 4 := by
    rw [take_succ_getD l j (by omega), digL_app]; simp [digL]
  unfold splice
  have h1 : (bv (digP l j)).take (4 * j) = bv (digL (l.take j)) := by
    unfold bv; rw [← List.map_take]; unfold digP; rw [List.take_append_of_le_length (by omega), List.take_of_length_le (by omega)]
  have h2 : (bv (digP l j)).drop (4 * j + (bv (putL (l.getD j 0) 4)).length) = bv (List.replicate (32 - 4 * (j + 1)) 0) := by
    rw [bv_length, putL_length]
    unfold bv; rw [← List.map_drop]; unfold digP
    rw [List.drop_append, List.drop_eq_nil_of_le (by omega), e1, List.nil_append, List.drop_replicate]
    congr 2; omega
  rw [h1, h2, ← List.append_assoc, ← bv_append, ← bv_append]
  unfold digP; rw [e2]
theorem dig_slice (M j : Nat) (hj : j < 8) (w : World) : (Instr.sliceAt 42 (.pointer (some ⟨M, 0, none⟩)) (some (.int .i64 (4 * (j : Int)))) none none).run Tryd.prog w = .ok (.slice (some ⟨M, 4 * j, none⟩) (32 - 4 * j) (32 - 4 * j)) w := by
  have hlen : Tryd.prog.arrayLen 42 = 32 := by kernel_rfl
  have ht : Tryd.prog.underlying 42 = some (.array (Tryd.prog.arrayLen 42) (Tryd.prog.elem 42)) := by kernel_rfl
  have hsz : (sizeOf (Tryd.prog.elem 42)).run Tryd.prog w = .ok 1 w := by kernel_rfl
  rw [run_sliceAt_array_l w 42 ⟨M, 0, none⟩ ht .i64 _ (by omega) (by rw [hlen]; omega), hsz, hlen]
  have e1 : (4 * (j : Int)).toNat = 4 * j := by omega
  simp only [Result.andThen_ok, slicedAt, e1]
  rw [if_neg (by omega), Addr.add_lit]
  simp
/-- the cells of a hash that no call made -/
def hz : Array Value := (Value.bool false :: (uv (List.replicate 8 0) ++ (bv (List.replicate 64 0) ++ [Value.int .i64 0]))).toArray
theorem hz_size : hz.size = 74 := rfl
/-- behind the first steps of Sum: the answer's place, and the hash once more -/
structure SumUp (w W : World) (A : Array Value) : Prop where
  low : Below w.heap.size w W
  res : ∃ cs : Array Value, cs.size = 32 ∧ W.heap[w.heap.size]? = some (.cells cs 42 (0, 0))
  row : W.heap[w.heap.size + 1]? = some (.cells A 94 (0, 0))
  size : w.heap.size + 2 ≤ W.heap.size
theorem sum_start (w : World) (A : Array Value) (hA : A.size = 74) : SumUp w (((w.alloc (.cells #[.int .u8 0, .int .u8 0, .int .u8 0, .int .u8 0, .int .u8 0, .int .u8 0, .int .u8 0, .int .u8 0, .int .u8 0, .int .u8 0, .int .u8 0, .int .u8 0, .int .u8 0, .int .u8 0, .int .u8 0, .int .u8 0, .int .u8 0, .int .u8 0, .int .u8 0, .int .u8 0, .int .u8 0, .int .u8 0, .int .u8 0, .int .u8 0, .int .u8 0, .int .u8 0, .int .u8 0, .int .u8 0, .int .u8 0, .int .u8 0, .int .u8 0, .int .u8 0] 42)).alloc (.cells hz 94)).setCells (w.alloc (.cells #[.int .u8 0, .int .u8 0, .int .u8 0, .int .u8 0, .int .u8 0, .int .u8 0, .int .u8 0, .int .u8 0, .int .u8 0, .int .u8 0, .int .u8 0, .int .u8 0, .int .u8 0, .int .u8 0, .int .u8 0, .int .u8 0, .int .u8 0, .int .u8 0, .int .u8 0, .int .u8 0, .int .u8 0, .int .u8 0, .int .u8 0, .int .u8 0, .int .u8 0, .int .u8 0, .int .u8 0, .int .u8 0, .int .u8 0, .int .u8 0, .int .u8 0, .int .u8 0] 42)).heap.size 0 A.toList) A := by
  have e1 : (w.alloc (.cells #[.int .u8 0, .int .u8 0, .int .u8 0, .int .u8 0, .int .u8 0, .int .u8 0, .int .u8 0, .int .u8 0, .int .u8 0, .int .u8 0, .int .u8 0, .int .u8 0, .int .u8 0, .int .u8 0, .int .u8 0, .int .u8 0, .int .u8 0, .int .u8 0, .int .u8 0, .int .u8 0, .int .u8 0, .int .u8 0, .int .u8 0, .int .u8 0, .int .u8 0, .int .u8 0, .int .u8 0, .int .u8 0, .int .u8 0, .int .u8 0, .int .u8 0, .int .u8 0] 42)).heap.size = w.heap.size + 1 := by simp
  have hb : Below w.heap.size w ((w.alloc (.cells #[.int .u8 0, .int .u8 0, .int .u8 0, .int .u8 0, .int .u8 0, .int .u8 0, .int .u8 0, .int .u8 0, .int .u8 0, .int .u8 0, .int .u8 0, .int .u8 0, .int .u8 0, .int .u8 0, .int .u8 0, .int .u8 0, .int .u8 0, .int .u8 0, .int .u8 0, .int .u8 0, .int .u8 0, .int .u8 0, .int .u8 0, .int .u8 0, .int .u8 0, .int .u8 0, .int .u8 0, .int .u8 0, .int .u8 0, .int .u8 0, .int .u8 0, .int .u8 0] 42)).alloc (.cells hz 94)) := ((Below.refl _ _).alloc (Nat.le_refl _) _).alloc (by simp) _
  have hs : ((w.alloc (.cells #[.int .u8 0, .int .u8 0, .int .u8 0, .int .u8 0, .int .u8 0, .int .u8 0, .int .u8 0, .int .u8 0, .int .u8 0, .int .u8 0, .int .u8 0, .int .u8 0, .int .u8 0, .int .u8 0, .int .u8 0, .int .u8 0, .int .u8 0, .int .u8 0, .int .u8 0, .int .u8 0, .int .u8 0, .int .u8 0, .int .u8 0, .int .u8 0, .int .u8 0, .int .u8 0, .int .u8 0, .int .u8 0, .int .u8 0, .int .u8 0, .int .u8 0, .int .u8 0] 42)).alloc (.cells hz 94)).heap.size = w.heap.size + 1 + 1 := by simp
  have hb2 := below_setCells hb (w.alloc (.cells #[.int .u8 0, .int .u8 0, .int .u8 0, .int .u8 0, .int .u8 0, .int .u8 0, .int .u8 0, .int .u8 0, .int .u8 0, .int .u8 0, .int .u8 0, .int .u8 0, .int .u8 0, .int .u8 0, .int .u8 0, .int .u8 0, .int .u8 0, .int .u8 0, .int .u8 0, .int .u8 0, .int .u8 0, .int .u8 0, .int .u8 0, .int .u8 0, .int .u8 0, .int .u8 0, .int .u8 0, .int .u8 0, .int .u8 0, .int .u8 0, .int .u8 0, .int .u8 0] 42)).heap.size (by rw [e1]; omega) A.toList 0
  have hb3 := below_setCells (Below.refl 0 ((w.alloc (.cells #[.int .u8 0, .int .u8 0, .int .u8 0, .int .u8 0, .int .u8 0, .int .u8 0, .int .u8 0, .int .u8 0, .int .u8 0, .int .u8 0, .int .u8 0, .int .u8 0, .int .u8 0, .int .u8 0, .int .u8 0, .int .u8 0, .int .u8 0, .int .u8 0, .int .u8 0, .int .u8 0, .int .u8 0, .int .u8 0, .int .u8 0, .int .u8 0, .int .u8 0, .int .u8 0, .int .u8 0, .int .u8 0, .int .u8 0, .int .u8 0, .int .u8 0, .int .u8 0] 42)).alloc (.cells hz 94))) (w.alloc (.cells #[.int .u8 0, .int .u8 0, .int .u8 0, .int .u8 0, .int .u8 0, .int .u8 0, .int .u8 0, .int .u8 0, .int .u8 0, .int .u8 0, .int .u8 0, .int .u8 0, .int .u8 0, .int .u8 0, .int .u8 0, .int .u8 0, .int .u8 0, .int .u8 0, .int .u8 0, .int .u8 0, .int .u8 0, .int .u8 0, .int .u8 0, .int .u8 0, .int .u8 0, .int .u8 0, .int .u8 0, .int .u8 0, .int .u8 0, .int .u8 0, .int .u8 0, .int .u8 0] 42)).heap.size (Nat.zero_le _) A.toList 0
  refine ⟨hb2, ⟨#[.int .u8 0, .int .u8 0, .int .u8 0, .int .u8 0, .int .u8 0, .int .u8 0, .int .u8 0, .int .u8 0, .int .u8 0, .int .u8 0, .int .u8 0, .int .u8 0, .int .u8 0, .int .u8 0, .int .u8 0, .int .u8 0, .int .u8 0, .int .u8 0, .int .u8 0, .int .u8 0, .int .u8 0, .int .u8 0, .int .u8 0, .int .u8 0, .int .u8 0, .int .u8 0, .int .u8 0, .int .u8 0, .int .u8 0, .int .u8 0, .int .u8 0, .int .u8 0], rfl, ?_⟩, ?_, ?_⟩
  · rw [((But.refl _ _).setCells A.toList 0).block _ (by rw [hs]; omega) (by rw [e1]; omega), heap_alloc_old _ _ (by rw [e1]; omega), heap_alloc_new]
  · rw [← e1]
    exact heap_stored (vs := A) (heap_alloc_new _ _) (by rw [hA, hz_size])
  · have := hb3.size; rw [hs] at this; exact this
/-- what stays while the digest is written, its row being r -/
structure DK (N M : Nat) (r : List Int) (w wr : World) : Prop where
  low : Below N w wr
  apart : N < M
  res : ∃ cs : Array Value, cs.size = 32 ∧ wr.heap[N]? = some (.cells cs 42 (0, 0))
  row : wr.heap[M]? = some (.cells (bv r).toArray 42 (0, 0))
theorem DK.lt {N M : Nat} {r : List Int} {w wr : World} (h : DK N M r w wr) : M < wr.heap.size := (Array.getElem?_eq_some_iff.1 h.row).1
theorem dig_pos {w : World} {M j : Nat} {ad : Addr} {cs : List Value} (h : ∀ i v, cs[i]? = some v → w.cell? (ad.add i) = some v) :
    0 < cs.length → some (⟨M, 4 * j, none⟩ : Addr) = some ⟨M, 4 * j, none⟩ ∧ ∃ a, some ad = some a ∧ ∀ i v, cs[i]? = some v → w.cell? (a.add i) = some v :=
  fun _ => ⟨rfl, ad, rfl, h⟩
theorem dig_info : (Tryd.prog.info? 42).map (·.size) = some 32 := by kernel_rfl
theorem hash_info : (Tryd.prog.info? 94).map (·.size) = some 74 := by kernel_rfl
theorem dig_min (j : Nat) {l : List Value} (h : l.length = 4) (hj : j < 8) : l.length = Nat.min 4 (32 - 4 * j) := by
  rw [h, show Nat.min 4 (32 - 4 * j) = min 4 (32 - 4 * j) from rfl]; omega

set_option maxRecDepth 100000 in
set_option maxHeartbeats 1000000 in
theorem hsum_any (g : Nat) (l : List Int) (w : World) (hh : HashAt w g l) (htab : Tab w) (hbd : l.length ≤ 2305843009213693951) :
    Calls Tryd.prog 53 #[.pointer (some ⟨g, 0, none⟩)] w fun e w' => e = .returned (.agg (bv (sumL l)).toArray) ∧ Below w.heap.size w w' := by
  have hglt := hh.lt
  obtain ⟨r, hr, hrow⟩ := hh
  have hmade := hash_made hrow
  have hmadeA : ∀ o, (w.alloc o).cell? ⟨g, 0, none⟩ = some (.bool true) := fun o => hash_made (heap_alloc_old w o hglt |>.trans hrow)
  have hcnt := hash_count hrow hr.len
  have HZ : Bx ((hcl (chn l (l.length / 64)) r l.length).toArray.size = 74) := ⟨by rw [List.size_toArray, hcl_length _ _ _ hr.len]⟩
  have HO : Bx ((hcl (chn l (l.length / 64)) r l.length).toArray.all (·.oneCell') = true) := ⟨all_oneCell_toArray (hcl_one _ _ _)⟩
  have HR : Bx (∀ o, (w.alloc o).heap[g]? = some (.cells (hcl (chn l (l.length / 64)) r l.length).toArray 94 (0, 0))) := ⟨fun o => heap_alloc_old w o hglt |>.trans hrow⟩
  have HH : Bx (∀ W : World, W.heap[w.heap.size + 1]? = some (.cells (hcl (chn l (l.length / 64)) r l.length).toArray 94 (0, 0)) → HashAt W (w.heap.size + 1) l) := ⟨fun W h => ⟨r, hr, h⟩⟩
  clear hrow
  generalize (hcl (chn l (l.length / 64)) r l.length).toArray = A at HZ HO HR HH
  have HI : Bx ((Tryd.prog.info? 94).map (·.size) = some A.size) := ⟨by rw [HZ.out]; exact hash_info⟩
  go_enter Tryd.func53, Tryd.ntmps53
  go_wp2_with (refine wpList_load_row rfl 94 (.tmp 18) rfl g rfl 94 A (0, 0) _ (HR.out _) Tryd.underlying94 rfl HI.out ?_; refine wpList_run rfl (.pointer (some ⟨(w.alloc (.cells #[.int .u8 0, .int .u8 0, .int .u8 0, .int .u8 0, .int .u8 0, .int .u8 0, .int .u8 0, .int .u8 0, .int .u8 0, .int .u8 0, .int .u8 0, .int .u8 0, .int .u8 0, .int .u8 0, .int .u8 0, .int .u8 0, .int .u8 0, .int .u8 0, .int .u8 0, .int .u8 0, .int .u8 0, .int .u8 0, .int .u8 0, .int .u8 0, .int .u8 0, .int .u8 0, .int .u8 0, .int .u8 0, .int .u8 0, .int .u8 0, .int .u8 0, .int .u8 0] 42)).heap.size, 0, none⟩)) ((w.alloc (.cells #[.int .u8 0, .int .u8 0, .int .u8 0, .int .u8 0, .int .u8 0, .int .u8 0, .int .u8 0, .int .u8 0, .int .u8 0, .int .u8 0, .int .u8 0, .int .u8 0, .int .u8 0, .int .u8 0, .int .u8 0, .int .u8 0, .int .u8 0, .int .u8 0, .int .u8 0, .int .u8 0, .int .u8 0, .int .u8 0, .int .u8 0, .int .u8 0, .int .u8 0, .int .u8 0, .int .u8 0, .int .u8 0, .int .u8 0, .int .u8 0, .int .u8 0, .int .u8 0] 42)).alloc (.cells hz 94)) (by kernel_rfl) ?_; refine wpList_store_mid rfl 94 (.tmp 3) (.tmp 19) rfl (w.alloc (.cells #[.int .u8 0, .int .u8 0, .int .u8 0, .int .u8 0, .int .u8 0, .int .u8 0, .int .u8 0, .int .u8 0, .int .u8 0, .int .u8 0, .int .u8 0, .int .u8 0, .int .u8 0, .int .u8 0, .int .u8 0, .int .u8 0, .int .u8 0, .int .u8 0, .int .u8 0, .int .u8 0, .int .u8 0, .int .u8 0, .int .u8 0, .int .u8 0, .int .u8 0, .int .u8 0, .int .u8 0, .int .u8 0, .int .u8 0, .int .u8 0, .int .u8 0, .int .u8 0] 42)).heap.size 0 A rfl rfl (by rw [HZ.out, ← hz_size]; exact there_new _ _ _) HI.out HO.out ?_; have hS := sum_start w A HZ.out; generalize ((w.alloc (.cells #[.int .u8 0, .int .u8 0, .int .u8 0, .int .u8 0, .int .u8 0, .int .u8 0, .int .u8 0, .int .u8 0, .int .u8 0, .int .u8 0, .int .u8 0, .int .u8 0, .int .u8 0, .int .u8 0, .int .u8 0, .int .u8 0, .int .u8 0, .int .u8 0, .int .u8 0, .int .u8 0, .int .u8 0, .int .u8 0, .int .u8 0, .int .u8 0, .int .u8 0, .int .u8 0, .int .u8 0, .int .u8 0, .int .u8 0, .int .u8 0, .int .u8 0, .int .u8 0] 42)).alloc (.cells hz 94)).setCells (w.alloc (.cells #[.int .u8 0, .int .u8 0, .int .u8 0, .int .u8 0, .int .u8 0, .int .u8 0, .int .u8 0, .int .u8 0, .int .u8 0, .int .u8 0, .int .u8 0, .int .u8 0, .int .u8 0, .int .u8 0, .int .u8 0, .int .u8 0, .int .u8 0, .int .u8 0, .int .u8 0, .int .u8 0, .int .u8 0, .int .u8 0, .int .u8 0, .int .u8 0, .int .u8 0, .int .u8 0, .int .u8 0, .int .u8 0, .int .u8 0, .int .u8 0, .int .u8 0, .int .u8 0] 42)).heap.size 0 A.toList = W3 at hS ⊢; have hcnt3 := (hS.low.cell (p := ⟨g, 73, none⟩) hglt).trans hcnt)
  refine (pad_any l.length W3 (by omega) (by omega)).mono ?_
  rintro e W4 ⟨v4, rfl, hown4, hb4⟩
  have hpl : 9 ≤ (padL l.length).length ∧ (padL l.length).length ≤ 72 := by rw [padL_length]; have := padZ_le l.length; omega
  have hpb := padL_byt l.length
  have HSM : Bx (digL (chn (l ++ padL l.length) ((l ++ padL l.length).length / 64)).list = sumL l) := ⟨by unfold sumL allL; rfl⟩
  generalize padL (l.length : Int) = p at hown4 hpl hpb HSM ⊢
  obtain ⟨hpl1, hpl2⟩ := hpl
  obtain ⟨g4, cap4, rfl, hg4, _⟩ := owns_form hown4 (by omega)
  obtain ⟨a4, c4, e4, hm4⟩ := Bts.of_owns hown4 hpb
  cases e4
  have hS2 := hS.size
  have hrow4 : W4.heap[w.heap.size + 1]? = some (.cells A 94 (0, 0)) := (hb4.block _ (by omega)).trans hS.row
  have hash4 := HH.out W4 hrow4
  have hlow4 : Below w.heap.size w W4 := hS.low.trans (hb4.mono (by omega))
  have hsz4 := hb4.size
  obtain ⟨cs, hcs, hres3⟩ := hS.res
  have hres4 : W4.heap[w.heap.size]? = some (.cells cs 42 (0, 0)) := (hb4.block _ (by omega)).trans hres3
  have htab4 := htab.below hlow4
  clear hown4 hb4 hrow4 hres3 hcnt3 hS
  go_wp2_with fail
  refine (take_any (w.heap.size + 1) l p _ _ _ _ hash4 hm4 (fun _ p hp => by cases hp; show g4 ≠ _; omega) (by have := htab.pos; omega) htab4 (by omega)).mono ?_
  rintro e W5 ⟨⟨v5, rfl⟩, ⟨r5, hr5, hrow5⟩, hbut5⟩
  have hlow5 : Below w.heap.size w W5 := hlow4.trans (hbut5.low (by omega) (by omega))
  have hres5 : W5.heap[w.heap.size]? = some (.cells cs 42 (0, 0)) := (hbut5.block _ (by omega) (by omega)).trans hres4
  have hsz5 := hbut5.size
  have htu := chn_u (l ++ p) ((l ++ p).length / 64)
  generalize chn (l ++ p) ((l ++ p).length / 64) = t at hrow5 HSM htu
  generalize (l ++ p).length = n5 at hrow5
  clear hash4 hm4 hlow4 htab4 hres4 hbut5
  have hDK : DK w.heap.size W5.heap.size (List.replicate 32 0) w (W5.alloc (.cells #[.int .u8 0, .int .u8 0, .int .u8 0, .int .u8 0, .int .u8 0, .int .u8 0, .int .u8 0, .int .u8 0, .int .u8 0, .int .u8 0, .int .u8 0, .int .u8 0, .int .u8 0, .int .u8 0, .int .u8 0, .int .u8 0, .int .u8 0, .int .u8 0, .int .u8 0, .int .u8 0, .int .u8 0, .int .u8 0, .int .u8 0, .int .u8 0, .int .u8 0, .int .u8 0, .int .u8 0, .int .u8 0, .int .u8 0, .int .u8 0, .int .u8 0, .int .u8 0] 42)) :=
    ⟨hlow5.alloc hlow5.size _, by omega, ⟨cs, hcs, by rw [heap_alloc_old _ _ (by omega)]; exact hres5⟩, by rw [heap_alloc_new]; rfl⟩
  have hrow6 : (W5.alloc (.cells #[.int .u8 0, .int .u8 0, .int .u8 0, .int .u8 0, .int .u8 0, .int .u8 0, .int .u8 0, .int .u8 0, .int .u8 0, .int .u8 0, .int .u8 0, .int .u8 0, .int .u8 0, .int .u8 0, .int .u8 0, .int .u8 0, .int .u8 0, .int .u8 0, .int .u8 0, .int .u8 0, .int .u8 0, .int .u8 0, .int .u8 0, .int .u8 0, .int .u8 0, .int .u8 0, .int .u8 0, .int .u8 0, .int .u8 0, .int .u8 0, .int .u8 0, .int .u8 0] 42)).heap[w.heap.size + 1]? = some (.cells (hcl t r5 n5).toArray 94 (0, 0)) := by rw [heap_alloc_old _ _ (by omega)]; exact hrow5
  obtain ⟨c1, c2, c3, c4, c5, c6, c7, c8⟩ := hash_st hrow6
  clear hrow6 hrow5 hlow5 hres5
  go_wp2
  rw [show (#[.int .u32 t.a, .int .u32 t.b, .int .u32 t.c, .int .u32 t.d, .int .u32 t.e, .int .u32 t.f, .int .u32 t.g, .int .u32 t.h] : Array Value) = (uv t.list).toArray from rfl]
  clear c1 c2 c3 c4 c5 c6 c7 c8
  generalize W5.alloc (.cells #[.int .u8 0, .int .u8 0, .int .u8 0, .int .u8 0, .int .u8 0, .int .u8 0, .int .u8 0, .int .u8 0, .int .u8 0, .int .u8 0, .int .u8 0, .int .u8 0, .int .u8 0, .int .u8 0, .int .u8 0, .int .u8 0, .int .u8 0, .int .u8 0, .int .u8 0, .int .u8 0, .int .u8 0, .int .u8 0, .int .u8 0, .int .u8 0, .int .u8 0, .int .u8 0, .int .u8 0, .int .u8 0, .int .u8 0, .int .u8 0, .int .u8 0, .int .u8 0] 42) = W6 at hDK ⊢
  obtain ⟨N, hN⟩ : ∃ N, N = w.heap.size := ⟨_, rfl⟩
  obtain ⟨M, hM⟩ : ∃ M, M = W5.heap.size := ⟨_, rfl⟩
  rw [← hN] at hDK ⊢
  rw [← hM] at hDK ⊢
  have HN : Hid (N = w.heap.size) := hN
  have htl := St.list_u htu
  have HL8 : Hid (t.list.length = 8) := rfl
  generalize t.list = tl at HSM htl HL8 ⊢
  clear hN hM htu hglt hmade hmadeA hcnt HR HH
  go_loopw [29] (fun i wr => ∃ j : Nat, j ≤ 8 ∧ i = .int .i64 j ∧ DK N M (digP tl j) w wr) (fun i _ => 8 - (intOf i).toNat)
  case atStart => exact ⟨0, Nat.zero_le _, rfl, by rw [digP_zero]; exact hDK⟩
  case round =>
    clear hDK
    obtain ⟨j, hj, rfl, hk⟩ := hrel
    by_cases hlt : j < 8
    · have hix := idx_u32 tl j HL8.out hlt
      have hu := htl.getD j
      have HSP : Hid (splice (bv (digP tl j)) (4 * j) (bv (putL (tl.getD j 0) 4)) = bv (digP tl (j + 1))) := digP_splice tl j HL8.out hlt
      have HRL : Hid ((bv (digP tl j)).length = 32) := by show _ = _; rw [bv_length, digP_length tl j HL8.out hj]
      generalize tl.getD j 0 = x at hix hu HSP
      have hu1 := hu.1
      have hu2 := hu.2
      have HQ : Hid ((bv (putL x 4)).length = 4) := by show _ = _; rw [bv_length, putL_length]
      have hsl := dig_slice M j hlt
      have hMlt : M < wr.drew.heap.size := hk.lt
      have hrow : wr.drew.heap[M]? = some (.cells (bv (digP tl j)).toArray 42 (0, 0)) := hk.row
      have hlow : Below N w wr.drew := hk.low.drew
      have hap := hk.apart
      have j0 : (0 : Int) ≤ (j : Int) := by omega
      have j8 : (j : Int) < 8 := by omega
      have hw4 : IntKind.i64.wrap (4 * (j : Int)) = 4 * (j : Int) := IntWalk.i64_in _ (by omega)
      have hwx : IntKind.u64.wrap x = x := by rw [IntKind.wrap_u64]; omega
      obtain ⟨cs', hcs', hres'⟩ := hk.res
      go_wp2
      go_region_held3 (fun _ => True) (trivial) (first | (go_at_call 72; refine (put_some x 4 _ (by decide) (by decide) (by omega) (by omega)).mono ?_; rintro e w3 ⟨v3, rfl, hown3, hb3⟩; obtain ⟨a3, cap3, rfl, hm3⟩ := Bts.of_owns hown3 (putL_byt _ _); obtain ⟨g3, o3, rfl, _, _⟩ := hm3.spot (by decide); have hcl := hm3.cells; have hg3 := (hb3.block _ hMlt).trans hrow; have hB3 := hlow.trans (hb3.mono (by omega)); have hres3 := hb3.block N (by omega); clear hown3 hm3 hb3) | (refine step_copy_splice rfl (.tmp 35) (.tmp 38) 22 22 rfl 5 Tryd.underlying22 Tryd.size5 _ _ _ _ _ _ (by rfl) (by rfl) M (4 * j) (bv (digP tl j)) 42 hg3 (bv (putL x 4)) (dig_min j HQ.out hlt) (dig_pos hcl) (by rw [HQ.out, HRL.out]; omega) (bv_one _) M w3 (Below.refl _ _) (Nat.le_refl _) ?_; intro w4 hg4 hb4))
      have hk4 : DK N M (digP tl (j + 1)) w w4 := by
        refine ⟨hB3.trans (hb4.mono (by omega)), hap, ⟨cs', hcs', ?_⟩, ?_⟩
        · rw [hb4.block N hap, hres3]; exact hres'
        · have h4 := hg4.out
          rw [HSP.out] at h4
          exact h4
      clear hg4 hcl hg3 hB3 hrow hlow hres' hres3 hb4 hk HSP HRL hix hsl
      go_wp2
      go_roundw
      case rel => exact ⟨j + 1, by omega, by go_num, hk4⟩
      case measure => simp [intOf]; omega
    · have HJ : Hid (j = 8) := by show j = 8; omega
      obtain ⟨cs', hcs', hres⟩ := hk.res
      have ht := there_row hres
      rw [hcs'] at ht
      have hst : wr.heap[M]? = some (.cells (bv (sumL l)).toArray 42 (0, 0)) := by
        have := hk.row
        rw [HJ.out, digP_end tl HL8.out, HSM.out] at this
        exact this
      have HZ2 : Bx ((bv (sumL l)).toArray.size = 32) := ⟨by rw [List.size_toArray, bv_length, sumL_length]⟩
      have HO2 : Bx ((bv (sumL l)).toArray.all (·.oneCell') = true) := ⟨all_oneCell_toArray (bv_one _)⟩
      have hbl : Below w.heap.size w wr := by rw [← HN.out]; exact hk.low
      have hNs : w.heap.size ≤ N := by have := HN.out; omega
      clear HSM hk
      generalize hD : (bv (sumL l)).toArray = D at hst HZ2 HO2
      have HD : Bx (Ending.returned (.agg D) = .returned (.agg (bv (sumL l)).toArray)) := ⟨by rw [hD]⟩
      clear hD
      have HI2 : Bx ((Tryd.prog.info? 42).map (·.size) = some D.size) := ⟨by rw [HZ2.out]; exact dig_info⟩
      have HST : Bx ((wr.setCells N 0 D.toList).heap[N]? = some (.cells D 42 (0, 0))) := ⟨heap_stored (vs := D) hres (by rw [hcs', HZ2.out])⟩
      have HBS : Bx (Below w.heap.size w (wr.setCells N 0 D.toList)) := ⟨below_setCells hbl N hNs D.toList 0⟩
      have HTH : Bx (wr.there N 0 D.size) := ⟨by rw [HZ2.out]; exact ht⟩
      have HRW : Bx (wr.heap[M]? = some (.cells D 42 (0, 0))) := ⟨hst⟩
      clear hres ht hbl hNs hcs' hst
      go_wp2_with (refine wpList_load_row rfl 42 (.tmp 4) rfl M rfl 42 D (0, 0) _ HRW.out Tryd.underlying42 rfl HI2.out ?_; refine wpList_store_mid rfl 42 (.tmp 2) (.tmp 41) rfl N 0 D rfl rfl HTH.out HI2.out HO2.out ?_)
      exact bodyPost_ret (v := .agg D) (results_cell_row rfl _ _ N 42 D (0, 0) _ rfl HST.out Tryd.underlying42 rfl HI2.out) rfl ⟨HD.out, HBS.out⟩
end Go.Proofs.YtfkloilbjfleeaaDoor
namespace Go.Proofs.YtfkloilbjfleeaaDoor
open Go.RowKit
set_option linter.unusedVariables false

set_option maxRecDepth 100000 in
set_option maxHeartbeats 400000 in
theorem sum_any (a : Option Addr) (len cap : Nat) (b : List Int) (w : World) (hb : Bts w a len cap b) (htab : Tab w) (hbd : len ≤ 2305843009213693951) :
    Calls Tryd.prog 31 #[.slice a len cap] w fun e w' => e = .returned (.agg (bv (sumL b)).toArray) ∧ Below w.heap.size w w' := by
  have hlen := hb.len_eq
  have HZ2 : Bx ((bv (sumL b)).toArray.size = 32) := ⟨by rw [List.size_toArray, bv_length, sumL_length]⟩
  have HO2 : Bx ((bv (sumL b)).toArray.all (·.oneCell') = true) := ⟨all_oneCell_toArray (bv_one _)⟩
  go_enter Tryd.func31, Tryd.ntmps31
  go_wp2_with fail
  have hb0 : Below w.heap.size w (w.alloc (.cells #[.int .u8 0, .int .u8 0, .int .u8 0, .int .u8 0, .int .u8 0, .int .u8 0, .int .u8 0, .int .u8 0, .int .u8 0, .int .u8 0, .int .u8 0, .int .u8 0, .int .u8 0, .int .u8 0, .int .u8 0, .int .u8 0, .int .u8 0, .int .u8 0, .int .u8 0, .int .u8 0, .int .u8 0, .int .u8 0, .int .u8 0, .int .u8 0, .int .u8 0, .int .u8 0, .int .u8 0, .int .u8 0, .int .u8 0, .int .u8 0, .int .u8 0, .int .u8 0] 42)) := (Below.refl _ _).alloc (Nat.le_refl _) _
  have hres0 : (w.alloc (.cells #[.int .u8 0, .int .u8 0, .int .u8 0, .int .u8 0, .int .u8 0, .int .u8 0, .int .u8 0, .int .u8 0, .int .u8 0, .int .u8 0, .int .u8 0, .int .u8 0, .int .u8 0, .int .u8 0, .int .u8 0, .int .u8 0, .int .u8 0, .int .u8 0, .int .u8 0, .int .u8 0, .int .u8 0, .int .u8 0, .int .u8 0, .int .u8 0, .int .u8 0, .int .u8 0, .int .u8 0, .int .u8 0, .int .u8 0, .int .u8 0, .int .u8 0, .int .u8 0] 42)).heap[w.heap.size]? = some (.cells #[.int .u8 0, .int .u8 0, .int .u8 0, .int .u8 0, .int .u8 0, .int .u8 0, .int .u8 0, .int .u8 0, .int .u8 0, .int .u8 0, .int .u8 0, .int .u8 0, .int .u8 0, .int .u8 0, .int .u8 0, .int .u8 0, .int .u8 0, .int .u8 0, .int .u8 0, .int .u8 0, .int .u8 0, .int .u8 0, .int .u8 0, .int .u8 0, .int .u8 0, .int .u8 0, .int .u8 0, .int .u8 0, .int .u8 0, .int .u8 0, .int .u8 0, .int .u8 0] 42 (0, 0)) := heap_alloc_new _ _
  obtain ⟨cs, hcs, hres0'⟩ : ∃ cs : Array Value, cs.size = 32 ∧ (w.alloc (.cells #[.int .u8 0, .int .u8 0, .int .u8 0, .int .u8 0, .int .u8 0, .int .u8 0, .int .u8 0, .int .u8 0, .int .u8 0, .int .u8 0, .int .u8 0, .int .u8 0, .int .u8 0, .int .u8 0, .int .u8 0, .int .u8 0, .int .u8 0, .int .u8 0, .int .u8 0, .int .u8 0, .int .u8 0, .int .u8 0, .int .u8 0, .int .u8 0, .int .u8 0, .int .u8 0, .int .u8 0, .int .u8 0, .int .u8 0, .int .u8 0, .int .u8 0, .int .u8 0] 42)).heap[w.heap.size]? = some (.cells cs 42 (0, 0)) := ⟨_, rfl, hres0⟩
  have hs0 : (w.alloc (.cells #[.int .u8 0, .int .u8 0, .int .u8 0, .int .u8 0, .int .u8 0, .int .u8 0, .int .u8 0, .int .u8 0, .int .u8 0, .int .u8 0, .int .u8 0, .int .u8 0, .int .u8 0, .int .u8 0, .int .u8 0, .int .u8 0, .int .u8 0, .int .u8 0, .int .u8 0, .int .u8 0, .int .u8 0, .int .u8 0, .int .u8 0, .int .u8 0, .int .u8 0, .int .u8 0, .int .u8 0, .int .u8 0, .int .u8 0, .int .u8 0, .int .u8 0, .int .u8 0] 42)).heap.size = w.heap.size + 1 := by simp
  clear hres0
  generalize w.alloc (.cells #[.int .u8 0, .int .u8 0, .int .u8 0, .int .u8 0, .int .u8 0, .int .u8 0, .int .u8 0, .int .u8 0, .int .u8 0, .int .u8 0, .int .u8 0, .int .u8 0, .int .u8 0, .int .u8 0, .int .u8 0, .int .u8 0, .int .u8 0, .int .u8 0, .int .u8 0, .int .u8 0, .int .u8 0, .int .u8 0, .int .u8 0, .int .u8 0, .int .u8 0, .int .u8 0, .int .u8 0, .int .u8 0, .int .u8 0, .int .u8 0, .int .u8 0, .int .u8 0] 42) = w0 at hb0 hres0' hs0 ⊢
  refine (new_any _).mono ?_
  rintro e w1 ⟨g, rfl, hash1, hg1, hb1⟩
  have hlow1 := hb0.trans (hb1.mono (by omega))
  have hres1 := (hb1.block w.heap.size (by omega)).trans hres0'
  have hm1 := hb.below hlow1
  have ht1 := htab.below hlow1
  have hap : 0 < len → ∀ p, a = some p → p.block ≠ g := by
    intro hz p hp
    obtain ⟨sb, so, e, hlt, _⟩ := hb.spot hz
    rw [e] at hp; cases hp
    show sb ≠ g; omega
  clear hb1 hres0'
  go_wp2_with fail
  refine (take_any g [] b a len cap _ hash1 hm1 hap (by have := htab.pos; omega) ht1 (by show 0 + len ≤ _; omega)).mono ?_
  rintro e w2 ⟨⟨v, rfl⟩, hash2, hbut⟩
  rw [List.nil_append] at hash2
  have hlow2 := hlow1.trans (hbut.low (B := w.heap.size) (by omega) hlow1.size)
  have hsz1 := hlow1.size
  have hres2 := (hbut.block w.heap.size (Array.getElem?_eq_some_iff.1 hres1).1 (by omega)).trans hres1
  have ht2 := htab.below hlow2
  clear hash1 hm1 hlow1 hres1 ht1 hbut
  go_wp2_with fail
  refine (hsum_any g b _ hash2 ht2 (by omega)).mono ?_
  rintro e w3 ⟨rfl, hb3⟩
  have hlow3 := hlow2.trans (hb3.mono hlow2.size)
  have hres3 := (hb3.block w.heap.size (Array.getElem?_eq_some_iff.1 hres2).1).trans hres2
  clear hash2 hlow2 hres2 ht2 hb3
  have ht := there_row hres3
  rw [hcs] at ht
  have HPost : Bx (∀ W, Below w.heap.size w W → (Ending.returned (.agg (bv (sumL b)).toArray) = .returned (.agg (bv (sumL b)).toArray) ∧ Below w.heap.size w W)) := ⟨fun W h => ⟨rfl, h⟩⟩
  generalize hD : (bv (sumL b)).toArray = D at HZ2 HO2 ⊢
  have HD : Bx (Ending.returned (.agg D) = .returned (.agg (bv (sumL b)).toArray)) := ⟨by rw [hD]⟩
  clear hD HPost
  have HI2 : Bx ((Tryd.prog.info? 42).map (·.size) = some D.size) := ⟨by rw [HZ2.out]; exact dig_info⟩
  have HST : Bx ((w3.setCells w.heap.size 0 D.toList).heap[w.heap.size]? = some (.cells D 42 (0, 0))) := ⟨heap_stored (vs := D) hres3 (by rw [hcs, HZ2.out])⟩
  have HBS : Bx (Below w.heap.size w (w3.setCells w.heap.size 0 D.toList)) := ⟨below_setCells hlow3 w.heap.size (Nat.le_refl _) D.toList 0⟩
  have HTH : Bx (w3.there w.heap.size 0 D.size) := ⟨by rw [HZ2.out]; exact ht⟩
  clear hres3 ht hlow3 hcs
  go_wp2_with (refine wpList_store_mid rfl 42 (.tmp 2) (.tmp 9) rfl w.heap.size 0 D rfl rfl HTH.out HI2.out HO2.out ?_)
  exact bodyPost_ret (v := .agg D) (results_cell_row rfl _ _ w.heap.size 42 D (0, 0) _ rfl HST.out Tryd.underlying42 rfl HI2.out) rfl ⟨HD.out, HBS.out⟩

theorem idx_u8 (l : List Int) (j : Nat) (hl : l.length = 32) (hj : j < 32) (w : World) : (Instr.index 42 (.agg (bv l).toArray) (.int .i64 (j : Int))).run Tryd.prog w = .ok (.int .u8 (l.getD j 0)) w := by
  have hx : (bv l)[j]? = some (.int .u8 (l.getD j 0)) := by
    unfold bv; rw [List.getElem?_map, List.getElem?_eq_getElem (by omega), List.getD_eq_getElem?_getD, List.getElem?_eq_getElem (by omega)]; rfl
  simp only [Instr.index, asIntOf, go_sem, part]
  simp
  rw [if_pos hj, hx, List.getD_eq_getElem?_getD]; rfl
set_option maxRecDepth 100000 in
theorem sum_nil : (sumL []).getD 0 0 = 227 := by decide +kernel
theorem pad_nil : (padL 0).length = 64 := by rw [padL_length]; rfl

end Go.Proofs.YtfkloilbjfleeaaDoor
