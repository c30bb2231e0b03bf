/- What take does to a hash. What New, Count and Add answer. Bytes of whatever make behind an own row: 'append(b, c...)'. A key's block and the sum by a key, on lists of bytes: no walk. -/
import Derived.Test.YtbednfacipphhaaDoorAuag
import Derived.Test.YtbednfacipphhaaDoorAual
import Derived.Test.YtbednfacipphhaaDoorAuas
namespace Go.Proofs.YtbednfacipphhaaDoor
open Go.RowKit
set_option linter.unusedVariables false

/-- the hash of the bytes l lies in the block g -/
def HashAt (w : World) (g : Nat) (l : List Int) : Prop :=
  ∃ r, Rst l r ∧ w.heap[g]? = some (.cells (hcl (chn l (l.length / 64)) r l.length).toArray 137 (0, 0))
set_option maxRecDepth 100000 in
theorem HashAt.of_block {w w' : World} {g : Nat} {l : List Int} (h : HashAt w g l) (hb : w'.heap[g]? = w.heap[g]?) : HashAt w' g l := by
  obtain ⟨r, h1, h2⟩ := h
  exact ⟨r, h1, hb.trans h2⟩
set_option maxRecDepth 100000 in
theorem HashAt.lt {w : World} {g : Nat} {l : List Int} (h : HashAt w g l) : g < w.heap.size := by
  obtain ⟨r, _, h2⟩ := h
  exact (Array.getElem?_eq_some_iff.1 h2).1
set_option maxRecDepth 100000 in
theorem rest_slice (g c : Nat) (hc : c < 64) (w : World) : (Instr.sliceAt 105 (.pointer (some ⟨g, 9, none⟩)) (some (.int .i64 (c : Int))) none none).run Tryd.prog w = .ok (.slice (some ⟨g, 9 + c, none⟩) (64 - c) (64 - c)) w := by
  have hlen : Tryd.prog.arrayLen 105 = 64 := by kernel_rfl
  have ht : Tryd.prog.underlying 105 = some (.array (Tryd.prog.arrayLen 105) (Tryd.prog.elem 105)) := by kernel_rfl
  have hsz : (sizeOf (Tryd.prog.elem 105)).run Tryd.prog w = .ok 1 w := by kernel_rfl
  rw [run_sliceAt_array_l w 105 ⟨g, 9, none⟩ ht .i64 _ (by omega) (by rw [hlen]; omega), hsz, hlen]
  simp only [Result.andThen_ok, slicedAt, Int.toNat_natCast]
  rw [if_neg (by omega), Addr.add_lit]
  simp
set_option maxRecDepth 100000 in
theorem hash_count {w : World} {g n : Nat} {s : St} {r : List Int} {t : TypeId} (h : w.heap[g]? = some (.cells (hcl s r n).toArray t (0, 0))) (hr : r.length = 64) : w.cell? ⟨g, 73, none⟩ = some (.int .i64 n) := by
  rw [cell_of_row w g 73 _ t (0, 0) h, List.getElem?_toArray]; exact hcl_getN s r n hr
set_option maxRecDepth 100000 in
theorem hash_st {w : World} {g n : Nat} {s : St} {r : List Int} {t : TypeId} (h : w.heap[g]? = some (.cells (hcl s r n).toArray t (0, 0))) :
    w.cell? ⟨g, 1, none⟩ = some (.int .u32 s.a) ∧ w.cell? ⟨g, 2, none⟩ = some (.int .u32 s.b) ∧ w.cell? ⟨g, 3, none⟩ = some (.int .u32 s.c) ∧ w.cell? ⟨g, 4, none⟩ = some (.int .u32 s.d) ∧
    w.cell? ⟨g, 5, none⟩ = some (.int .u32 s.e) ∧ w.cell? ⟨g, 6, none⟩ = some (.int .u32 s.f) ∧ w.cell? ⟨g, 7, none⟩ = some (.int .u32 s.g) ∧ w.cell? ⟨g, 8, none⟩ = some (.int .u32 s.h) := by
  refine ⟨?_, ?_, ?_, ?_, ?_, ?_, ?_, ?_⟩ <;> rw [cell_of_row w g _ _ t (0, 0) h] <;> rfl
set_option maxRecDepth 100000 in
theorem hash_free {w : World} {g : Nat} {cs : Array Value} {t : TypeId} (h : w.heap[g]? = some (.cells cs t (0, 0))) :
    w.frozen? ⟨g, 1, none⟩ = false ∧ w.frozen? ⟨g, 2, none⟩ = false ∧ w.frozen? ⟨g, 3, none⟩ = false ∧ w.frozen? ⟨g, 4, none⟩ = false ∧
    w.frozen? ⟨g, 5, none⟩ = false ∧ w.frozen? ⟨g, 6, none⟩ = false ∧ w.frozen? ⟨g, 7, none⟩ = false ∧ w.frozen? ⟨g, 8, none⟩ = false := by
  refine ⟨?_, ?_, ?_, ?_, ?_, ?_, ?_, ?_⟩ <;> exact frozen_of_row _ _ _ _ _ h
/-- what a load of 64 bytes at this place reads -/
def rowOf (w : World) : Value → Array Value
  | .pointer (some ⟨b, o, _⟩) => match w.heap[b]? with
    | some (.cells cs _ _) => cs.extract o (o + 64)
    | _ => #[]
  | _ => #[]
def RowOk (w : World) (v : Value) : Prop := ∃ b o cs t, v = .pointer (some ⟨b, o, none⟩) ∧ w.heap[b]? = some (.cells cs t (0, 0)) ∧ o + 64 ≤ cs.size
set_option maxRecDepth 100000 in
theorem wp_load64 {dst : Option Tmp} {ty : TypeId} {pos : String} {after : Array Edge} {guard : Option (Nat × Bool)} {x : Operand} {a : Act} {w : World} {K : Act → World → Prop} {Q : Exit → Act → World → Prop} (h : RowOk w (a.eval x)) :
    Oper.wp Tryd.prog { dst := dst, op := .load 105 x, type := ty, pos := pos, after := after, guard := guard } a w K Q = K (a.put dst (.agg (rowOf w (a.eval x)))) w := by
  obtain ⟨b, o, cs, t, hv, hh, hs⟩ := h
  have hr := World.rangeAt_of_block hh o 64
  have hrun := run_loadAt_mid (P := Tryd.prog) w b o 105 _ _ hr Tryd.underlying105 rfl (by rw [Array.length_toList, Array.size_extract, Nat.min_eq_left hs, Nat.add_sub_cancel_left]; exact in_info)
  have e : rowOf w (a.eval x) = (cs.extract o (o + 64)).toList.toArray := by rw [hv]; simp only [rowOf, hh]
  rw [e]
  unfold Oper.wp execOp
  simp only [hv, Sem.run_bind, Sem.run_pure, hrun, Result.andThen_ok]
  rfl
set_option maxRecDepth 100000 in
theorem hash_ok {w : World} {g n : Nat} {s : St} {r : List Int} {t : TypeId} (h : w.heap[g]? = some (.cells (hcl s r n).toArray t (0, 0))) (hr : r.length = 64) : RowOk w (.pointer (some ⟨g, 9, none⟩)) :=
  ⟨g, 9, _, t, rfl, h, by rw [List.size_toArray, hcl_length s r n hr]; decide⟩
set_option maxRecDepth 100000 in
theorem hash_row {w : World} {g n : Nat} {s : St} {r : List Int} {t : TypeId} (h : w.heap[g]? = some (.cells (hcl s r n).toArray t (0, 0))) (hr : r.length = 64) : rowOf w (.pointer (some ⟨g, 9, none⟩)) = (bv r).toArray := by
  simp only [rowOf, h]
  apply Array.ext_getElem?
  intro j
  rw [Array.getElem?_extract, List.size_toArray, hcl_length s r n hr, List.getElem?_toArray, List.getElem?_toArray]
  by_cases hj : j < 64
  · rw [if_pos (by omega), hcl_getR s r n j (by omega)]
  · rw [if_neg (by omega), List.getElem?_eq_none (by rw [bv_length]; omega)]
set_option maxRecDepth 100000 in
theorem block_lit (s : St) (b : List Int) (t : St) (ht : t = blk s b) (w : World) (hs : StU s) (hb : Byt b) (hl : b.length = 64) (htab : Tab w) :
    Calls Tryd.prog 102 #[.agg #[.int .u32 s.a, .int .u32 s.b, .int .u32 s.c, .int .u32 s.d, .int .u32 s.e, .int .u32 s.f, .int .u32 s.g, .int .u32 s.h], .agg (bv b).toArray] w fun e w' => e = .returned (.agg #[.int .u32 t.a, .int .u32 t.b, .int .u32 t.c, .int .u32 t.d, .int .u32 t.e, .int .u32 t.f, .int .u32 t.g, .int .u32 t.h]) ∧ Below w.heap.size w w' := by
  subst ht; exact block_any s b w hs hb hl htab
set_option maxRecDepth 100000 in
theorem count_mod (n : Nat) : ((n : Int)).tmod 64 = ((n % 64 : Nat) : Int) := by
  rw [Int.tmod_eq_emod_of_nonneg (by omega)]; omega
set_option maxRecDepth 100000 in
theorem take_min {len c : Nat} {x : List Int} (h : x.length = min len (64 - c)) : (bv x).length = Nat.min len (64 - c) := by rw [bv_length, h]
set_option maxRecDepth 100000 in
theorem Tab.but {g : Nat} {w w' : World} (h : Tab w) (hb : But g w w') (hg : 0 < g) : Tab w' :=
  ⟨Nat.lt_of_lt_of_le h.pos hb.size, fun i hi => (World.cell?_of_block (w := w) (hb.block 0 h.pos (by omega))).trans (h.cell i hi)⟩

attribute [local go_sem ↓] wp_load64
set_option maxRecDepth 100000 in
set_option maxHeartbeats 1000000 in
theorem take_any (g : Nat) (l m : List Int) (a : Option Addr) (len cap : Nat) (w : World) (hh : HashAt w g l) (hm : Bts w a len cap m) (ha : 0 < len → ∀ p, a = some p → p.block ≠ g) (hg : 0 < g) (htab : Tab w) (hbd : l.length + len ≤ 4611686018427387904) :
    Calls Tryd.prog 88 #[.pointer (some ⟨g, 0, none⟩), .slice a len cap] w fun e w' => (∃ v, e = .returned v) ∧ HashAt w' g (l ++ m) ∧ But g w w' := by
  go_enter Tryd.func88, Tryd.ntmps88
  go_wp2
  go_loopw [1] (fun v wr => ∃ k a' len' cap', v = .slice a' len' cap' ∧ k + len' = len ∧ Bts wr a' len' cap' (m.drop k) ∧ HashAt wr g (l ++ m.take k) ∧ But g w wr ∧ (0 < len' → ∀ p, a' = some p → p.block ≠ g)) (fun v _ => lenOf v)
  case atStart => exact ⟨0, a, len, cap, rfl, by omega, hm, by rw [List.take_zero, List.append_nil]; exact hh, But.refl _ _, ha⟩
  case round =>
    obtain ⟨k, a', len', cap', rfl, hk, hm', ⟨r, hr, hrow⟩, hbut, ha'⟩ := hrel
    by_cases hlt : 0 < len'
    · have hL : Hid ((l ++ m.take k).length = l.length + k) := by
        show _ = _
        have := hm.len_eq
        rw [List.length_append, List.length_take]; omega
      obtain ⟨sb, so, rfl, hsb, hsc⟩ := hm'.spot hlt
      have hne := ha' hlt _ rfl
      have hsrc := hm'.cells
      obtain ⟨L, hLd⟩ : ∃ L, L = l.length + k := ⟨_, rfl⟩
      have hLen : (l ++ m.take k).length = L := by rw [hLd]; exact hL.out
      have hLb : L + len' ≤ 4611686018427387904 := by omega
      obtain ⟨q, hq⟩ : ∃ q, q = min len' (64 - L % 64) := ⟨_, rfl⟩
      have hq1 : 1 ≤ q := by omega
      have hq2 : q ≤ len' := by omega
      have hq3 : L % 64 + q ≤ 64 := by omega
      have hx : ((m.drop k).take q).length = q := by rw [List.length_take, hm'.len_eq]; omega
      have hxb : Byt ((m.drop k).take q) := hm'.byt.take q
      have hxs : ∀ j v, (bv ((m.drop k).take q))[j]? = some v → wr.cell? ((⟨sb, so, none⟩ : Addr).add j) = some v := by
        intro j v hv
        refine hsrc j v ?_
        have hj : j < q := by have := (List.getElem?_eq_some_iff.1 hv).1; rw [bv_length, hx] at this; exact this
        rw [← hv]; unfold bv; rw [List.map_take, List.getElem?_take, if_pos hj]
      have HN : Hid (l ++ m.take (k + q) = (l ++ m.take k) ++ (m.drop k).take q) := by
        show _ = _; rw [List.append_assoc, List.take_add]
      have HD : Hid ((m.drop k).drop q = m.drop (k + q)) := by show _ = _; rw [List.drop_drop]
      have hLd' : Hid (L = l.length + k) := hLd
      rw [hLen] at hrow
      obtain ⟨l', hl'⟩ : ∃ l', l' = l ++ m.take k := ⟨_, rfl⟩
      rw [← hl'] at hLen hr hrow HN
      obtain ⟨x, hxd⟩ : ∃ x, x = (m.drop k).take q := ⟨_, rfl⟩
      rw [← hxd] at hx hxb hxs HN
      have HL' : Hid (l'.length = L) := hLen
      have hcnt := hash_count hrow hr.len
      have hmod := count_mod L
      have hsl := rest_slice g (L % 64) (by omega)
      have Hfit : Hid (9 + L % 64 + (bv x).length ≤ (hcl (chn l' (L / 64)) r L).length) := by show _ ≤ _; rw [hcl_length _ _ _ hr.len, bv_length, hx]; omega
      have Hmin : Hid ((bv x).length = Nat.min len' (64 - L % 64)) := take_min (by rw [hx, hq])
      have Hone : Hid (∀ v ∈ bv x, v.oneCell' = true) := bv_one x
      have Hspl : Hid (splice (hcl (chn l' (L / 64)) r L) (9 + L % 64) (bv x) = hcl (chn l' (L / 64)) (splice r (L % 64) x) L) := hcl_splice _ _ _ _ _ (by rw [hr.len, hx]; exact hq3)
      have Hxl : Hid ((bv x).length = q) := by show _ = _; rw [bv_length, hx]
      have hr64 : Hid ((splice r (L % 64) x).length = 64) := by
        show _ = _
        have := splice_len hr x (by rw [HL'.out, hx]; exact hq3)
        rw [HL'.out] at this; exact this
      have hrst := hr
      have Hsb : Hid (∀ j v, (bv x)[j]? = some v → wr.cell? ((⟨sb, so, none⟩ : Addr).add j) = some v) := hxs
      clear hsrc hxs hl' hxd hLd hsc hLen
      obtain ⟨c, hc⟩ : ∃ c, c = L % 64 := ⟨_, rfl⟩
      have HC : Hid (c = L % 64) := hc
      rw [← hc] at hmod hsl Hfit Hmin Hspl hr64 hq3
      obtain ⟨cur, hcur⟩ : ∃ cur, cur = hcl (chn l' (L / 64)) r L := ⟨_, rfl⟩
      have HCur : Hid (cur = hcl (chn l' (L / 64)) r L) := hcur
      rw [← hcur] at hrow Hfit Hspl
      obtain ⟨X, hX⟩ : ∃ X, X = bv x := ⟨_, rfl⟩
      rw [← hX] at Hfit Hmin Hone Hspl Hxl Hsb
      clear hc hcur hX hq
      go_wp2
      go_region_held3 (fun w' => w'.cell? ⟨g, 73, none⟩ = some (.int .i64 (L : Int))) (first | (exact hcnt) | (exact hash_count (Eq.trans hg2.out (congrArg (fun l => some (Obj.cells (List.toArray l) 137 (0, 0))) Hspl.out)) hr64.out)) ((refine step_copy_but rfl (.tmp 16) (.tmp 17) 22 22 rfl 5 Tryd.underlying22 Tryd.size5 g (9 + c) (64 - c) (64 - c) ⟨sb, so, none⟩ len' cap' (by rfl) (by rfl) cur 137 hrow X Hmin.out Hsb.out Hfit.out Hone.out ?_; intro w2 hg2 hbut2))
      rename_i hHeld
      have hrow2 : w2.heap[g]? = some (.cells (hcl (chn l' (L / 64)) (splice r c x) L).toArray 137 (0, 0)) := hg2.out.trans (congrArg (fun l => some (Obj.cells (List.toArray l) 137 (0, 0))) Hspl.out)
      have hfr2 := frozen_of_row _ _ 73 _ _ hrow2
      have hbut3 : But g wr w2 := (But.drewN (But.refl g wr) 1).trans hbut2
      have hrow3 := heap_setCell_same w2 g 73 _ _ (.int .i64 ((L + q : Nat) : Int)) hrow2
      have hset : (hcl (chn l' (L / 64)) (splice r c x) L).toArray.setIfInBounds 73 (.int .i64 ((L + q : Nat) : Int)) = (hcl (chn l' (L / 64)) (splice r c x) (L + q)).toArray := by
        rw [List.setIfInBounds_toArray, hcl_count _ _ _ _ hr64.out]
      rw [hset] at hrow3
      have hbut4 := hbut3.setCell 73 (.int .i64 ((L + q : Nat) : Int))
      have hcast : ((L + q : Nat) : Int) = (L : Int) + (q : Int) := by omega
      rw [hcast] at hrow3 hbut4
      have hLq : (L : Int) + (q : Int) ≤ 4611686018427387904 := by omega
      have hLq0 : (0 : Int) ≤ (L : Int) + (q : Int) := by omega
      have q0 : (0 : Int) ≤ (q : Int) := by omega
      have q1 : (q : Int) ≤ (len' : Int) := by omega
      rw [Hxl.out]
      have hm2 := hm'.but (hbut3) ha'
      clear hcnt hsl hmod hrow hg2 hbut2 hset hcast Hsb Hfit Hmin Hspl Hxl Hone HCur hm'
      obtain ⟨w3, hw3⟩ : ∃ w3, w3 = w2.setCell ⟨g, 73, none⟩ (.int .i64 ((L : Int) + (q : Int))) := ⟨_, rfl⟩
      have HW3 : Hid (w3 = w2.setCell ⟨g, 73, none⟩ (.int .i64 ((L : Int) + (q : Int)))) := hw3
      rw [← hw3] at hrow3 hbut4
      have hcnt3 := hash_count hrow3 hr64.out
      rw [Int.natCast_add] at hcnt3
      have hm3 : Bts w3 (some ⟨sb, so, none⟩) len' cap' (m.drop k) := hm2.but (by rw [hw3]; exact (But.refl g w2).setCell 73 _) ha'
      have hmB : Bts w3 (some ⟨sb, so + q, none⟩) (len' - q) (cap' - q) (m.drop (k + q)) := by rw [← HD.out]; exact hm3.tail hq2
      have hmA : Hid (cap' = q → Bts w3 (some ⟨sb, so, none⟩) (len' - q) 0 (m.drop (k + q))) := by
        intro hcq
        have hle := hm3.le_cap
        have hln := hm3.len_eq
        rw [← HD.out, show len' - q = 0 from by omega]
        exact Bts.none (List.drop_eq_nil_of_le (by omega))
      have hbut5 : But g w w3 := hbut.trans hbut4
      have hbm : Hid ((c + q = 64) ↔ ((L : Int) + (q : Int)) % 64 = 0) := by have := HC.out; show _ ↔ _; omega
      clear hw3 hm2 hm3 hrow2 hbut3 hbut4
      by_cases hfull : c + q = 64
      · have hbool : ((((L : Int) + (q : Int)) % 64) == 0) = true := by simpa using hbm.out.1 hfull
        have hcl := hrst.full hxb (by rw [HL'.out, hx]; have := HC.out; omega)
        rw [HL'.out, ← HC.out] at hcl
        have HE := hcl.2
        obtain ⟨s, hs⟩ : ∃ s, s = chn l' (L / 64) := ⟨_, rfl⟩
        obtain ⟨t, ht⟩ : ∃ t, t = blk s (splice r c x) := ⟨_, rfl⟩
        have hsu : StU s := by rw [hs]; exact chn_u _ _
        have HR : Hid (Rst (l' ++ x) (splice r c x)) := hcl.1
        rw [← hs, ← ht] at HE
        replace HE : Hid (chn (l' ++ x) ((l' ++ x).length / 64) = t) := HE
        rw [← hs] at hrow3
        have HT : Hid (t = blk s (splice r c x)) := ht
        have hrb := hcl.1.byt
        have HLX : Hid ((l' ++ x).length = L + q) := by show _ = _; rw [List.length_append, HL'.out, hx]
        clear hs ht hcl
        go_wp2
        all_goals
          rw [← HW3.out]
          obtain ⟨c1, c2, c3, c4, c5, c6, c7, c8⟩ := hash_st hrow3
          have hok := hash_ok (w := w3.drew) hrow3 hr64.out
          have hrw := hash_row (w := w3.drew) hrow3 hr64.out
          have hglt : g < w3.drew.heap.size := (Array.getElem?_eq_some_iff.1 hrow3).1
          have hrow3' : w3.drew.heap[g]? = some (.cells (hcl s (splice r c x) (L + q)).toArray 137 (0, 0)) := hrow3
          have ht3 : Tab w3.drew := (htab.but hbut5 hg).drewN 1
          generalize splice r c x = R at *
          go_region_law ((go_simp; refine (block_lit s R t HT.out _ hsu hrb hr64.out ht3).mono ?_; rintro e1 w4 ⟨rfl, hb4⟩; have hrow4 := (hb4.block g hglt).trans hrow3'; obtain ⟨d1, d2, d3, d4, d5, d6, d7, d8⟩ := hash_st hrow4; obtain ⟨f1, f2, f3, f4, f5, f6, f7, f8⟩ := hash_free hrow4))
          all_goals
            have hrow5 := heap_set_splice (o := 1) (vs := uv t.list) hrow4 (by rw [hcl_length _ _ _ hr64.out]; show 1 + 8 ≤ 74; decide)
            rw [hcl_state] at hrow5
            have hb35 : But g w3 (w4.setCells g 1 (uv t.list)) := (((But.refl g w3).drewN 1).trans (But.of_below hb4)).setCells _ _
            change Exit.inBlock 1 _ Exit.normal _ (w4.setCells g 1 (uv t.list))
            generalize w4.setCells g 1 (uv t.list) = w5 at hrow5 hb35 ⊢
            have hash5 : HashAt w5 g (l' ++ x) := ⟨R, HR.out, by rw [HE.out, HLX.out]; exact hrow5⟩
            rw [← HN.out] at hash5
            have hmB5 := hmB.but hb35 (fun _ p hp => by cases hp; exact hne)
            have hmA5 : Hid (cap' = q → Bts w5 (some ⟨sb, so, none⟩) (len' - q) 0 (m.drop (k + q))) := fun hc => (hmA.out hc).but hb35 (fun _ p hp => by cases hp; exact hne)
            have hbut6 := hbut5.trans hb35
            clear c1 c2 c3 c4 c5 c6 c7 c8 d1 d2 d3 d4 d5 d6 d7 d8 f1 f2 f3 f4 f5 f6 f7 f8 hok hrw hrow5 hrow4 hb4 hrow3 hrow3' hb35 hmB
            go_wp2
            go_roundw
            case rel => first | exact ⟨k + q, _, _, _, rfl, by omega, hmA5.out h, hash5, hbut6, fun _ p hp => by cases hp; exact hne⟩ | exact ⟨k + q, _, _, _, rfl, by omega, hmB5, hash5, hbut6, fun _ p hp => by cases hp; exact hne⟩
            case measure => simp [lenOf]; omega
      · have hbool : ((((L : Int) + (q : Int)) % 64) == 0) = false := by simpa using fun h => hfull (hbm.out.2 h)
        have hopen := hrst.open hxb (by rw [HL'.out, hx]; have := HC.out; omega)
        rw [HL'.out, ← HC.out] at hopen
        have hhash : HashAt w3 g (l' ++ x) := ⟨splice r c x, hopen.1, by rw [hopen.2, List.length_append, HL'.out, hx]; exact hrow3⟩
        rw [← HN.out] at hhash
        clear hopen hrow3 hcnt3
        by_cases hcq : cap' = q
        · have hmA' := hmA.out hcq
          go_wp2
          rw [← HW3.out]
          go_roundw
          case rel => exact ⟨k + q, _, _, _, rfl, by omega, hmA', hhash, hbut5, fun _ p hp => by cases hp; exact hne⟩
          case measure => simp [lenOf]; omega
        · go_wp2
          rw [← HW3.out]
          go_roundw
          case rel => exact ⟨k + q, _, _, _, rfl, by omega, hmB, hhash, hbut5, fun _ p hp => by cases hp; exact hne⟩
          case measure => simp [lenOf]; omega
    · have hz : len' = 0 := by omega
      have HF : Hid (l ++ m.take k = l ++ m) := by
        show _ = _
        rw [List.take_of_length_le (by rw [hm.len_eq]; omega)]
      have hash : HashAt wr g (l ++ m) := by rw [← HF.out]; exact ⟨r, hr, hrow⟩
      subst hz
      clear hrow hm' HF
      go_wp2
      go_end0
      exact ⟨⟨_, rfl⟩, hash, hbut⟩
end Go.Proofs.YtbednfacipphhaaDoor
namespace Go.Proofs.YtbednfacipphhaaDoor
open Go.RowKit
set_option linter.unusedVariables false

set_option maxRecDepth 100000 in
set_option maxHeartbeats 400000 in
theorem new_any (w : World) :
    Calls Tryd.prog 87 #[] w fun e w' => ∃ g, e = .returned (.pointer (some ⟨g, 0, none⟩)) ∧ HashAt w' g [] ∧ w.heap.size ≤ g ∧ Below w.heap.size w w' := by
  go_enter Tryd.func87, Tryd.ntmps87
  go_wp2_with fail
  refine (first_any _).mono ?_
  rintro e w1 ⟨rfl, hb1⟩
  have hsz := hb1.size
  have HB : Bx (Below w.heap.size w (w1.alloc (.cells (hcl st0 (List.replicate 64 0) 0).toArray 137))) := ⟨hb1.alloc hb1.size _⟩
  have HH : Bx (HashAt (w1.alloc (.cells (hcl st0 (List.replicate 64 0) 0).toArray 137)) w1.heap.size []) := ⟨⟨_, rst_nil, heap_alloc_new _ _⟩⟩
  clear hb1
  simp only []
  go_step
  refine wpList_run rfl (.agg (hcl st0 (List.replicate 64 0) 0).toArray) w1 (by kernel_rfl) ?_
  generalize (hcl st0 (List.replicate 64 0) 0).toArray = A at HB HH ⊢
  go_wp2
  go_ret
  exact ⟨_, rfl, HH.out, hsz, HB.out⟩

set_option maxRecDepth 100000 in
theorem hash_made {w : World} {g n : Nat} {s : St} {r : List Int} {t : TypeId} (h : w.heap[g]? = some (.cells (hcl s r n).toArray t (0, 0))) : w.cell? ⟨g, 0, none⟩ = some (.bool true) := by
  rw [cell_of_row w g 0 _ t (0, 0) h]; rfl
set_option maxHeartbeats 400000 in
theorem add_nil (v : Value) (w : World) :
    Calls Tryd.prog 99 #[.pointer none, v] w fun e w' => e = .returned (.int .i64 1) ∧ w = w' := by
  go_enter Tryd.func99, Tryd.ntmps99
  go_wp2
  go_ret
  exact ⟨rfl, rfl⟩
set_option maxHeartbeats 400000 in
theorem add_plain (g : Nat) (v : Value) (w : World) (hc : w.cell? ⟨g, 0, none⟩ = some (.bool false)) :
    Calls Tryd.prog 99 #[.pointer (some ⟨g, 0, none⟩), v] w fun e w' => e = .returned (.int .i64 1) ∧ w = w' := by
  go_enter Tryd.func99, Tryd.ntmps99
  go_wp2
  go_ret
  exact ⟨rfl, rfl⟩
set_option maxHeartbeats 400000 in
theorem add_any (g : Nat) (l m : List Int) (a : Option Addr) (len cap : Nat) (w : World) (hh : HashAt w g l) (hm : Bts w a len cap m) (ha : 0 < len → ∀ p, a = some p → p.block ≠ g) (hg : 0 < g) (htab : Tab w) (hbd : l.length + len ≤ 4611686018427387904) :
    Calls Tryd.prog 99 #[.pointer (some ⟨g, 0, none⟩), .slice a len cap] w fun e w' => e = .returned (.int .i64 0) ∧ HashAt w' g (l ++ m) ∧ But g w w' := by
  obtain ⟨r, hr, hrow⟩ := hh
  have hc := hash_made hrow
  have HH : Hid (HashAt w g l) := ⟨r, hr, hrow⟩
  clear hrow
  go_enter Tryd.func99, Tryd.ntmps99
  go_wp2_with fail
  refine (take_any g l m a len cap _ HH.out hm ha hg htab hbd).mono ?_
  rintro e w1 ⟨⟨v, rfl⟩, hash, hbut⟩
  go_wp2
  go_ret
  exact ⟨rfl, hash, hbut⟩
end Go.Proofs.YtbednfacipphhaaDoor
namespace Go.Proofs.YtbednfacipphhaaDoor
open Go.RowKit
set_option linter.unusedVariables false

set_option maxRecDepth 100000 in
/-- bytes of whatever make behind an own row -/
theorem wp_append_bts {o : Oper} {a : Act} {w : World} {K : Act → World → Prop} {Q : Exit → Act → World → Prop} (s x : Operand)
    (ho : o.op = .call { callee := .builtin .append, args := #[s, x], argTypes := #[22, 22] })
    (base n : Nat) (v : Value) (l : List Int) (hs : a.eval s = v) (hown : w.ownsRow base 5 1 v n (bv l))
    (ao : Option Addr) (m c : Nat) (l2 : List Int) (hx : a.eval x = .slice ao m c) (hb : Bts w ao m c l2) (h63 : n + m ≤ 140737488355328) (hbase : base ≤ w.heap.size)
    (h : ∀ v' w', w'.ownsRow base 5 1 v' (n + m) (bv (l ++ l2)) → Below base w w' → w.grownBy w' v.ownBlock → K (a.put o.dst v') w') : o.wp Tryd.prog a w K Q := by
  obtain ⟨i0, hi, hz0, hz1, hz2⟩ := info_parts Tryd.info5
  cases ao with
  | none =>
    have h0 := hb.nil rfl
    have h1 := hb.le_cap
    obtain rfl : c = 0 := h0
    obtain rfl : m = 0 := by omega
    obtain rfl : l2 = [] := List.eq_nil_of_length_eq_zero hb.len_eq
    have hrun := run_append_owned_none (P := Tryd.prog) (w := w) base 22 o.type 5 i0 1 Tryd.underlying22 hi v n (bv l) hown
    unfold Oper.wp
    simp [execOp, ho, resolve, invoke, builtin, hs, hx, hrun, Result.andThen]
    exact h _ _ (by rw [List.append_nil]; exact hown) (Below.refl _ _) ⟨rfl, rfl, rfl, Nat.le_refl _, fun _ _ _ => rfl⟩
  | some ad =>
    have hl := hb.len_eq
    refine wp_append_own w s x 22 ho base 5 i0 (.int .u8 0) 1 1 Tryd.underlying22 hi hz0 hz1 hz2 rfl (by decide) v n (bv l) hs hown ad m c (bv l2) hx (by rw [bv_length]; omega) hb.cells (bv_one l2) (by unfold maxLen; omega) (by omega) hbase ?_
    intro v' w' ho' hg _
    exact h v' w' (by rw [bv_append]; exact ho') ((Below.refl _ _).grown hg hbase (fun k hk => (hown.lt k hk).1)) hg
set_option maxRecDepth 100000 in
theorem wpList_append_bts {ops : Array Oper} {rest : List Oper} {o : Oper} {a : Act} {w : World} {Q : Exit → Act → World → Prop} (hgd : o.guard = none) (s x : Operand)
    (ho : o.op = .call { callee := .builtin .append, args := #[s, x], argTypes := #[22, 22] })
    (base n : Nat) (v : Value) (l : List Int) (hs : a.eval s = v) (hown : w.ownsRow base 5 1 v n (bv l))
    (ao : Option Addr) (m c : Nat) (l2 : List Int) (hx : a.eval x = .slice ao m c) (hb : Bts w ao m c l2) (h63 : n + m ≤ 140737488355328) (hbase : base ≤ w.heap.size)
    (h : ∀ v' w', w'.ownsRow base 5 1 v' (n + m) (bv (l ++ l2)) → Below base w w' → w.grownBy w' v.ownBlock → wpList Tryd.prog ops Q rest (a.put o.dst v') w') : wpList Tryd.prog ops Q (o :: rest) a w :=
  wpList_plain hgd fun K hK => wp_append_bts s x ho base n v l hs hown ao m c l2 hx hb h63 hbase (fun v' w' h1 h2 h3 => hK _ _ (h v' w' h1 h2 h3))
set_option maxRecDepth 100000 in
theorem step_append_bts {ops : Array Oper} {o : Oper} {a : Act} {w : World} {K : Act → World → Prop} {Q : Exit → Act → World → Prop} {E : Prop} (hgd : o.guard = none) (s x : Operand)
    (ho : o.op = .call { callee := .builtin .append, args := #[s, x], argTypes := #[22, 22] })
    (base n : Nat) (v : Value) (l : List Int) (hs : a.eval s = v) (hown : w.ownsRow base 5 1 v n (bv l))
    (ao : Option Addr) (m c : Nat) (l2 : List Int) (hx : a.eval x = .slice ao m c) (hb : Bts w ao m c l2) (h63 : n + m ≤ 140737488355328) (hbase : base ≤ w.heap.size)
    (h : ∀ v' w', w'.ownsRow base 5 1 v' (n + m) (bv (l ++ l2)) → Below base w w' → w.grownBy w' v.ownBlock → K (a.put o.dst v') w') :
    if Region.wanted o (yielded ops a.tmps) = true then Oper.wp Tryd.prog o a w K Q else E := by
  have hw : Region.wanted o (yielded ops a.tmps) = true := by simp [Region.wanted, hgd]
  rw [if_pos hw]
  exact wp_append_bts s x ho base n v l hs hown ao m c l2 hx hb h63 hbase h
end Go.Proofs.YtbednfacipphhaaDoor
namespace Go.Proofs.YtbednfacipphhaaDoor
open Go.RowKit
set_option linter.unusedVariables false

set_option maxRecDepth 100000 in
theorem xr_b {a b : Int} (ha : 0 ≤ a ∧ a ≤ 255) (hb : 0 ≤ b ∧ b ≤ 255) : 0 ≤ xr a b ∧ xr a b ≤ 255 := by
  have h1 := ha.1; have h2 := ha.2; have h3 := hb.1; have h4 := hb.2
  have := Nat.xor_lt_two_pow (x := a.toNat) (y := b.toNat) (n := 8) (by omega) (by omega)
  exact ⟨by unfold xr; omega, by unfold xr; omega⟩
set_option maxRecDepth 100000 in
theorem xr8_eq {a b : Int} (ha : 0 ≤ a ∧ a ≤ 255) (hb : 0 ≤ b ∧ b ≤ 255) : bits .xor .u8 a b = xr a b := by
  have h1 := ha.1; have h2 := ha.2; have h3 := hb.1; have h4 := hb.2
  exact u8_xor a b h1 (by omega) h3 (by omega)
/-- each byte, exclusive-ored -/
def xorB (l : List Int) (x : Int) : List Int := l.map (fun c => xr c x)
set_option maxRecDepth 100000 in
theorem xorB_length (l : List Int) (x : Int) : (xorB l x).length = l.length := by simp [xorB]
set_option maxRecDepth 100000 in
theorem xorB_byt {l : List Int} {x : Int} (h : Byt l) (hx : 0 ≤ x ∧ x ≤ 255) : Byt (xorB l x) := by
  intro c hc
  obtain ⟨d, hd, rfl⟩ := List.mem_map.1 hc
  exact xr_b (h d hd) hx
set_option maxRecDepth 100000 in
theorem xorB_take (l : List Int) (x : Int) (k : Nat) : (xorB l x).take k = xorB (l.take k) x := by simp [xorB, List.map_take]
set_option maxRecDepth 100000 in
theorem xorB_getD (l : List Int) (x : Int) (k : Nat) (h : k < l.length) : (xorB l x).getD k 0 = xr (l.getD k 0) x := by
  simp only [xorB, List.getD_eq_getElem?_getD, List.getElem?_map, List.getElem?_eq_getElem h, Option.map_some, Option.getD_some]
/-- the row behind k rounds of 'b[i] ^= x' -/
def mskP (b : List Int) (x : Int) (k : Nat) : List Int := xorB (b.take k) x ++ b.drop k
set_option maxRecDepth 100000 in
theorem mskP_zero (b : List Int) (x : Int) : mskP b x 0 = b := by simp [mskP, xorB]
set_option maxRecDepth 100000 in
theorem mskP_length (b : List Int) (x : Int) (k : Nat) : (mskP b x k).length = b.length := by simp [mskP, xorB]; omega
set_option maxRecDepth 100000 in
theorem mskP_end (b : List Int) (x : Int) (k : Nat) (h : b.length ≤ k) : mskP b x k = xorB b x := by
  unfold mskP; rw [List.take_of_length_le h, List.drop_eq_nil_of_le h, List.append_nil]
set_option maxRecDepth 100000 in
theorem mskP_get (b : List Int) (x : Int) (k : Nat) (h : k < b.length) : (mskP b x k).getD k 0 = b.getD k 0 := by
  unfold mskP
  simp only [List.getD_eq_getElem?_getD]
  rw [List.getElem?_append_right (by rw [xorB_length, List.length_take]; omega), xorB_length, List.length_take, Nat.min_eq_left (by omega), Nat.sub_self, List.getElem?_drop, Nat.add_zero]
set_option maxRecDepth 100000 in
theorem mskP_set (b : List Int) (x : Int) (k : Nat) (h : k < b.length) : (bv (mskP b x k)).toArray.setIfInBounds k (.int .u8 (xr (b.getD k 0) x)) = (bv (mskP b x (k + 1))).toArray := by
  rw [List.setIfInBounds_toArray]
  congr 1
  have e : b.drop k = b.getD k 0 :: b.drop (k + 1) := by rw [List.getD_eq_getElem?_getD, List.getElem?_eq_getElem h]; exact List.drop_eq_getElem_cons h
  have hl : (bv (xorB (b.take k) x)).length = k := by rw [bv_length, xorB_length, List.length_take]; omega
  unfold mskP
  rw [bv_append, List.set_append_right _ _ (by omega), hl, Nat.sub_self, e, take_succ_getD b k h]
  simp [bv, xorB]

set_option maxRecDepth 100000 in
theorem xorB_more (b : List Int) (x : Int) (j : Nat) (h : j < b.length) : xorB (b.take j) x ++ [xr (b.getD j 0) x] = xorB (b.take (j + 1)) x := by
  rw [take_succ_getD b j h]; simp [xorB]
/-- a key, or its sum where it is long -/
def keyP (k : List Int) : List Int := if 64 < k.length then sumL k else k
set_option maxRecDepth 100000 in
theorem sumL_byt (b : List Int) : Byt (sumL b) := digL_byt _
set_option maxRecDepth 100000 in
theorem keyP_long {k : List Int} (h : 64 < k.length) : keyP k = sumL k := if_pos h
set_option maxRecDepth 100000 in
theorem keyP_short {k : List Int} (h : ¬ 64 < k.length) : keyP k = k := if_neg h
set_option maxRecDepth 100000 in
theorem keyP_len (k : List Int) : (keyP k).length ≤ 64 := by
  by_cases h : 64 < k.length
  · rw [keyP_long h, sumL_length]; omega
  · rw [keyP_short h]; omega
set_option maxRecDepth 100000 in
theorem keyP_byt {k : List Int} (h : Byt k) : Byt (keyP k) := by
  by_cases hl : 64 < k.length
  · rw [keyP_long hl]; exact sumL_byt _
  · rw [keyP_short hl]; exact h
/-- noughts behind it, up to 64 -/
def fil (k : List Int) : List Int := k ++ List.replicate (64 - k.length) 0
set_option maxRecDepth 100000 in
theorem fil_len {k : List Int} (h : k.length ≤ 64) : (fil k).length = 64 := by unfold fil; rw [List.length_append, List.length_replicate]; omega
set_option maxRecDepth 100000 in
theorem zeros_byt (n : Nat) : Byt (List.replicate n 0) := by intro c hc; rw [List.eq_of_mem_replicate hc]; decide
set_option maxRecDepth 100000 in
theorem fil_byt {k : List Int} (h : Byt k) : Byt (fil k) := h.append (zeros_byt _)
set_option maxRecDepth 100000 in
theorem fil_zeros (k : List Int) (n : Nat) (h : k.length + n ≤ 64) : fil (k ++ List.replicate n 0) = fil k := by
  unfold fil
  rw [List.append_assoc, List.length_append, List.length_replicate, List.replicate_append_replicate]
  congr 2; omega
set_option maxRecDepth 100000 in
theorem fil_getD (k : List Int) (i : Nat) (h : k.length ≤ 64) (hi : i < 64) : (fil k).getD i 0 = k.getD i 0 := by
  unfold fil
  simp only [List.getD_eq_getElem?_getD]
  by_cases hk : i < k.length
  · rw [List.getElem?_append_left hk]
  · rw [List.getElem?_append_right (by omega), List.getElem?_replicate, if_pos (by omega), List.getElem?_eq_none (by omega)]; rfl
set_option maxRecDepth 100000 in
theorem fil_splice (k : List Int) (h : k.length ≤ 64) : splice (bv (List.replicate 64 0)) 0 (bv k) = bv (fil k) := by
  unfold splice fil
  rw [List.take_zero, List.nil_append, Nat.zero_add, bv_append, bv_length]
  congr 1
  unfold bv; rw [← List.map_drop, List.drop_replicate]
/-- a key's block -/
def blkK (k : List Int) : List Int := fil (keyP k)
set_option maxRecDepth 100000 in
theorem blkK_len (k : List Int) : (blkK k).length = 64 := fil_len (keyP_len k)
set_option maxRecDepth 100000 in
theorem blkK_byt {k : List Int} (h : Byt k) : Byt (blkK k) := fil_byt (keyP_byt h)
set_option maxRecDepth 100000 in
theorem blkK_long {k : List Int} (h : 64 < k.length) : blkK (sumL k) = blkK k := by
  unfold blkK; rw [keyP_long h, keyP_short (by rw [sumL_length]; omega)]
set_option maxRecDepth 100000 in
theorem blkK_zeros (k : List Int) (n : Nat) (h : k.length + n ≤ 64) : blkK (k ++ List.replicate n 0) = blkK k := by
  unfold blkK
  rw [keyP_short (by rw [List.length_append, List.length_replicate]; omega), keyP_short (by omega), fil_zeros k n h]
/-- the sum of a text by a key -/
def macL (k t : List Int) : List Int := sumL (xorB (blkK k) 92 ++ sumL (xorB (blkK k) 54 ++ t))
set_option maxRecDepth 100000 in
theorem macL_len (k t : List Int) : (macL k t).length = 32 := sumL_length _
set_option maxRecDepth 100000 in
theorem macL_byt (k t : List Int) : Byt (macL k t) := sumL_byt _
set_option maxRecDepth 100000 in
theorem macL_long {k : List Int} (t : List Int) (h : 64 < k.length) : macL (sumL k) t = macL k t := by unfold macL; rw [blkK_long h]
set_option maxRecDepth 100000 in
theorem macL_zeros (k t : List Int) (n : Nat) (h : k.length + n ≤ 64) : macL (k ++ List.replicate n 0) t = macL k t := by unfold macL; rw [blkK_zeros k n h]
set_option maxRecDepth 100000 in
theorem mac_nil : (macL [] []).getD 0 0 = 182 := by decide +kernel
end Go.Proofs.YtbednfacipphhaaDoor
