/- What Get and the document's Get answer. The rounds of SHA-256 on numbers: no walk. What merkle reckons: cut sums, nodes, where a list is cut, roots, paths and growths: no walk. -/
import Derived.Test.YtbednfacipphhaaDoorBase
import Derived.Test.YtbednfacipphhaaDoorAuas
namespace Go.Proofs.YtbednfacipphhaaDoor
open Go.RowKit
set_option linter.unusedVariables false

def getV (l : List Int) : Int := l.foldl (fun x c => 256 * x + c) 0
set_option maxRecDepth 100000 in
theorem getV_snoc (l : List Int) (c : Int) : getV (l ++ [c]) = 256 * getV l + c := by simp [getV]
set_option maxRecDepth 100000 in
theorem getV_bd (l : List Int) (h : Byt l) : 0 ≤ getV l ∧ getV l < 256 ^ l.length := by
  suffices H : ∀ (m : List Int), Byt m.reverse → 0 ≤ getV m.reverse ∧ getV m.reverse < 256 ^ m.length by
    have := H l.reverse (by simpa using h); simpa using this
  intro m
  induction m with
  | nil => intro _; simp [getV]
  | cons c m ih =>
    intro hb
    have h1 : Byt m.reverse := fun d hd => hb d (by simp at hd ⊢; exact .inl hd)
    have h2 := hb c (by simp)
    have h3 := ih h1
    rw [List.reverse_cons, getV_snoc, List.length_cons, Int.pow_succ]
    omega
set_option maxRecDepth 100000 in
theorem getV_small (l : List Int) (h : Byt l) (n : Nat) (hl : l.length ≤ n) (hn : n ≤ 7) : 0 ≤ getV l ∧ getV l ≤ 72057594037927935 := by
  have h1 := getV_bd l h
  rcases (by omega : l.length = 0 ∨ l.length = 1 ∨ l.length = 2 ∨ l.length = 3 ∨ l.length = 4 ∨ l.length = 5 ∨ l.length = 6 ∨ l.length = 7) with h | h | h | h | h | h | h | h <;> rw [h] at h1 <;> omega
set_option maxRecDepth 100000 in
theorem or_join64 (i : Nat) (x y : Int) (hx0 : 0 ≤ x) (hx : x ≤ 18446744073709551615) (hm : x % 2 ^ i = 0) (hy0 : 0 ≤ y) (hy : y < 2 ^ i) (hy2 : y ≤ 18446744073709551615) : bits .or .u64 x y = x + y := by
  rw [u64_or x y hx0 (by omega) hy0 (by omega)]
  obtain ⟨a, rfl⟩ := Int.eq_ofNat_of_zero_le hx0
  obtain ⟨b, rfl⟩ := Int.eq_ofNat_of_zero_le hy0
  rw [Int.toNat_natCast, Int.toNat_natCast, nat_join i a b (by exact_mod_cast hm) (by exact_mod_cast hy)]
  rfl

set_option maxRecDepth 100000 in
theorem get_none (a : Option Addr) (len cap : Nat) (w : World) (hm : len ≤ maxLen) (h : len < 1 ∨ 8 < len) :
    Calls Tryd.prog 110 #[.slice a len cap] w fun e w' => e = .returned (.tuple #[.int .u64 0, .bool false]) ∧ w = w' := by
  unfold maxLen at hm
  rcases h with h | h
  · have h1 : (len : Int) < 1 := by omega
    go_enter Tryd.func110, Tryd.ntmps110
    go_wp2
    go_ret2
    exact ⟨rfl, rfl⟩
  · have h1 : ¬ (len : Int) < 1 := by omega
    have h2 : (8 : Int) < len := by omega
    go_enter Tryd.func110, Tryd.ntmps110
    go_wp2
    go_ret2
    exact ⟨rfl, rfl⟩

set_option maxRecDepth 100000 in
theorem refget_none (a : Option Addr) (len cap : Nat) (w : World) (hm : len ≤ maxLen) (h : len < 1 ∨ 8 < len) :
    Calls Tryd.prog 91 #[.slice a len cap] w fun e w' => e = .returned (.tuple #[.int .u64 0, .bool false]) ∧ w = w' := by
  unfold maxLen at hm
  rcases h with h | h
  · have h1 : (len : Int) < 1 := by omega
    go_enter Tryd.func91, Tryd.ntmps91
    go_wp2
    go_ret2
    exact ⟨rfl, rfl⟩
  · have h1 : ¬ (len : Int) < 1 := by omega
    have h2 : (8 : Int) < len := by omega
    go_enter Tryd.func91, Tryd.ntmps91
    go_wp2
    go_ret2
    exact ⟨rfl, rfl⟩

set_option maxRecDepth 100000 in
theorem tuple_ub {a b : Int} (h : a = b) (c : Bool) : Ending.returned (.tuple #[.int .u64 a, .bool c]) = .returned (.tuple #[.int .u64 b, .bool c]) := by rw [h]

set_option maxHeartbeats 400000 in
theorem get_some (a : Option Addr) (len cap : Nat) (l : List Int) (w : World) (h : Bts w a len cap l) (h1 : 1 ≤ len) (h8 : len ≤ 8) :
    Calls Tryd.prog 110 #[.slice a len cap] w fun e w' => e = .returned (.tuple #[.int .u64 (getV l), .bool true]) ∧ w = w' := by
  have hl : Hid (l.length = len) := h.len_eq
  obtain ⟨b, off, rfl, _, hc⟩ := h.spot (by omega)
  have hn1 : ¬ (len : Int) < 1 := by omega
  have hn8 : ¬ (8 : Int) < len := by omega
  have HB : Hid (Byt l) := h.byt
  clear h
  go_enter Tryd.func110, Tryd.ntmps110
  go_wp2
  go_loop [4, 17] (fun x i => ∃ k : Nat, k ≤ len ∧ i = .int .i64 k ∧ x = .int .u64 (getV (l.take k))) (fun _ i => len - (intOf i).toNat)
  case atStart => exact ⟨0, Nat.zero_le _, rfl, rfl⟩
  case round =>
    obtain ⟨k, hk, rfl, rfl⟩ := hrel
    by_cases hlt : k < len
    · have hcell := hc k hlt
      have hv := getV_small (l.take k) (HB.out.take k) k (List.length_take_le _ _) (by omega)
      have hbd := HB.out.getD k
      have HS : Hid (getV (l.take (k + 1)) = 256 * getV (l.take k) + l.getD k 0) := by rw [take_succ_getD l k (by rw [hl.out]; omega)]; exact getV_snoc _ _
      generalize getV (l.take k) = G at hv HS ⊢
      generalize l.getD k 0 = C at hcell hbd HS
      have hj : bits .or .u64 (G * 256) C = G * 256 + C := or_join64 8 _ _ (by omega) (by omega) (by omega) hbd.1 (by omega) (by omega)
      clear hc
      go_wp2
      go_round
      case rel => exact ⟨k + 1, by omega, by go_num, by rw [HS.out]; go_num⟩
      case measure => simp [intOf]; omega
    · have HT : Hid (l.take k = l) := List.take_of_length_le (by rw [hl.out]; omega)
      clear hc
      go_wp2
      go_ret2
      exact ⟨tuple_ub (by rw [HT.out]) _, rfl⟩

set_option maxHeartbeats 400000 in
theorem refget_some (a : Option Addr) (len cap : Nat) (l : List Int) (w : World) (h : Bts w a len cap l) (h1 : 1 ≤ len) (h8 : len ≤ 8) :
    Calls Tryd.prog 91 #[.slice a len cap] w fun e w' => e = .returned (.tuple #[.int .u64 (getV l), .bool true]) ∧ w = w' := by
  have hl : Hid (l.length = len) := h.len_eq
  obtain ⟨b, off, rfl, _, hc⟩ := h.spot (by omega)
  have hn1 : ¬ (len : Int) < 1 := by omega
  have hn8 : ¬ (8 : Int) < len := by omega
  have HB : Hid (Byt l) := h.byt
  clear h
  go_enter Tryd.func91, Tryd.ntmps91
  go_wp2
  go_loop [4, 5] (fun x i => ∃ k : Nat, k ≤ len ∧ i = .int .i64 k ∧ x = .int .u64 (getV (l.take k))) (fun _ i => len - (intOf i).toNat)
  case atStart => exact ⟨0, Nat.zero_le _, rfl, rfl⟩
  case round =>
    obtain ⟨k, hk, rfl, rfl⟩ := hrel
    by_cases hlt : k < len
    · have hcell := hc k hlt
      have hv := getV_small (l.take k) (HB.out.take k) k (List.length_take_le _ _) (by omega)
      have hbd := HB.out.getD k
      have HS : Hid (getV (l.take (k + 1)) = 256 * getV (l.take k) + l.getD k 0) := by rw [take_succ_getD l k (by rw [hl.out]; omega)]; exact getV_snoc _ _
      generalize getV (l.take k) = G at hv HS ⊢
      generalize l.getD k 0 = C at hcell hbd HS
      clear hc
      go_wp2
      go_round
      case rel => exact ⟨k + 1, by omega, by go_num, by rw [HS.out]⟩
      case measure => simp [intOf]; omega
    · have HT : Hid (l.take k = l) := List.take_of_length_le (by rw [hl.out]; omega)
      clear hc
      go_wp2
      go_ret2
      exact ⟨tuple_ub (by rw [HT.out]) _, rfl⟩
end Go.Proofs.YtbednfacipphhaaDoor
namespace Go.Proofs.YtbednfacipphhaaDoor
open Go.RowKit
set_option linter.unusedVariables false

def ad (a b : Int) : Int := (a + b) % 4294967296
set_option maxRecDepth 100000 in
theorem ad_u (a b : Int) : U32 (ad a b) := by unfold U32 ad; omega
def nt (a : Int) : Int := 4294967295 - a
set_option maxRecDepth 100000 in
theorem nt_u {a : Int} (h : U32 a) : U32 (nt a) := by unfold U32 nt at *; omega
def wsum (p q r x y : Int) : Int := ad (ad (ad p x) q) y
def sg0 (v : Int) : Int := xr (xr (turnV v 7) (turnV v 18)) (v / 8)
def sg1 (v : Int) : Int := xr (xr (turnV v 17) (turnV v 19)) (v / 1024)
set_option maxRecDepth 100000 in
theorem div_u {v : Int} (h : U32 v) (d : Int) (hd : 0 < d) : U32 (v / d) := by
  have h1 := h.1; have h2 := h.2
  exact ⟨Int.ediv_nonneg h1 (Int.le_of_lt hd), Int.lt_of_le_of_lt (Int.ediv_le_self _ h1) h2⟩
set_option maxRecDepth 100000 in
theorem sg0_u {v : Int} (h : U32 v) : U32 (sg0 v) := xr_u (xr_u (turn_u _ h) (turn_u _ h)) (div_u h 8 (by decide))
set_option maxRecDepth 100000 in
theorem sg1_u {v : Int} (h : U32 v) : U32 (sg1 v) := xr_u (xr_u (turn_u _ h) (turn_u _ h)) (div_u h 1024 (by decide))
/-- the number w[i], those ahead being l -/
def wx (l : List Int) (i : Nat) : Int := ad (ad (ad (l.getD (i - 16) 0) (sg0 (l.getD (i - 15) 0))) (l.getD (i - 7) 0)) (sg1 (l.getD (i - 2) 0))
/-- four bytes as a number -/
def w4 (b : List Int) (i : Nat) : Int := getV ((b.drop (4 * i)).take 4)
/-- w[0] to w[k - 1] -/
def sch (b : List Int) : Nat → List Int
  | 0 => []
  | k + 1 => sch b k ++ [if k < 16 then w4 b k else wx (sch b k) k]
set_option maxRecDepth 100000 in
theorem sch_length (b : List Int) (k : Nat) : (sch b k).length = k := by
  induction k with
  | zero => rfl
  | succ k ih => simp [sch, ih]
set_option maxRecDepth 100000 in
theorem w4_u (b : List Int) (i : Nat) (h : Byt b) : U32 (w4 b i) := by
  unfold w4
  have hb : Byt ((b.drop (4 * i)).take 4) := fun c hc => h c (List.mem_of_mem_drop (List.mem_of_mem_take hc))
  have h1 := getV_bd _ hb
  have h2 : ((b.drop (4 * i)).take 4).length ≤ 4 := List.length_take_le _ _
  rcases (by omega : ((b.drop (4 * i)).take 4).length = 0 ∨ ((b.drop (4 * i)).take 4).length = 1 ∨ ((b.drop (4 * i)).take 4).length = 2 ∨ ((b.drop (4 * i)).take 4).length = 3 ∨ ((b.drop (4 * i)).take 4).length = 4) with e | e | e | e | e <;> rw [e] at h1 <;> exact ⟨h1.1, by omega⟩
set_option maxRecDepth 100000 in
theorem sch_u (b : List Int) (k : Nat) (h : Byt b) : U32s (sch b k) := by
  induction k with
  | zero => intro c hc; simp [sch] at hc
  | succ k ih =>
    intro c hc
    rcases List.mem_append.1 hc with h' | h'
    · exact ih c h'
    · simp at h'; subst h'; split
      · exact w4_u b k h
      · exact ad_u _ _

structure St where
  a : Int
  b : Int
  c : Int
  d : Int
  e : Int
  f : Int
  g : Int
  h : Int
structure StU (s : St) : Prop where
  a : U32 s.a
  b : U32 s.b
  c : U32 s.c
  d : U32 s.d
  e : U32 s.e
  f : U32 s.f
  g : U32 s.g
  h : U32 s.h
def rT (k w : Int) (s : St) : Int := ad (ad (ad (ad s.h (thr s.e 6 11 25)) (xr (an s.e s.f) (an (nt s.e) s.g))) k) w
def rU (s : St) : Int := ad (thr s.a 2 13 22) (xr (xr (an s.a s.b) (an s.a s.c)) (an s.b s.c))
def rnd (k w : Int) (s : St) : St := ⟨ad (rT k w s) (rU s), s.a, s.b, s.c, ad s.d (rT k w s), s.e, s.f, s.g⟩
set_option maxRecDepth 100000 in
theorem rnd_u {s : St} (k w : Int) (h : StU s) : StU (rnd k w s) := ⟨ad_u _ _, h.a, h.b, h.c, ad_u _ _, h.e, h.f, h.g⟩
def rnds (b : List Int) (s : St) : Nat → St
  | 0 => s
  | i + 1 => rnd (keyL.getD i 0) ((sch b 64).getD i 0) (rnds b s i)
set_option maxRecDepth 100000 in
theorem rnds_u (b : List Int) {s : St} (h : StU s) (i : Nat) : StU (rnds b s i) := by
  induction i with
  | zero => exact h
  | succ i ih => exact rnd_u _ _ ih
def St.plus (s t : St) : St := ⟨ad s.a t.a, ad s.b t.b, ad s.c t.c, ad s.d t.d, ad s.e t.e, ad s.f t.f, ad s.g t.g, ad s.h t.h⟩
/-- what 64 bytes make of eight numbers -/
def blk (s : St) (b : List Int) : St := s.plus (rnds b s 64)
set_option maxRecDepth 100000 in
theorem blk_u (s : St) (b : List Int) : StU (blk s b) := ⟨ad_u _ _, ad_u _ _, ad_u _ _, ad_u _ _, ad_u _ _, ad_u _ _, ad_u _ _, ad_u _ _⟩
def St.cells (s : St) : Array Value := #[.int .u32 s.a, .int .u32 s.b, .int .u32 s.c, .int .u32 s.d, .int .u32 s.e, .int .u32 s.f, .int .u32 s.g, .int .u32 s.h]
def st0 : St := ⟨1779033703, 3144134277, 1013904242, 2773480762, 1359893119, 2600822924, 528734635, 1541459225⟩
set_option maxRecDepth 100000 in
theorem st0_u : StU st0 := by constructor <;> exact ⟨by decide, by decide⟩
/-- the numbers behind i blocks of the bytes l -/
def chn (l : List Int) : Nat → St
  | 0 => st0
  | i + 1 => blk (chn l i) ((l.drop (64 * i)).take 64)
set_option maxRecDepth 100000 in
theorem chn_u (l : List Int) (i : Nat) : StU (chn l i) := by
  cases i with
  | zero => exact st0_u
  | succ i => exact blk_u _ _
/-- the eight numbers as a list -/
def St.list (s : St) : List Int := [s.a, s.b, s.c, s.d, s.e, s.f, s.g, s.h]
set_option maxRecDepth 100000 in
theorem St.list_u {s : St} (h : StU s) : U32s s.list := by
  intro c hc
  simp only [St.list, List.mem_cons, List.not_mem_nil, or_false] at hc
  rcases hc with rfl | rfl | rfl | rfl | rfl | rfl | rfl | rfl
  · exact h.a
  · exact h.b
  · exact h.c
  · exact h.d
  · exact h.e
  · exact h.f
  · exact h.g
  · exact h.h
set_option maxRecDepth 100000 in
theorem St.cells_list (s : St) : s.cells = (uv s.list).toArray := rfl
/-- numbers as bytes, four each -/
def digL : List Int → List Int
  | [] => []
  | x :: r => putL x 4 ++ digL r
/-- a text and what stands behind it -/
def allL (b : List Int) : List Int := b ++ padL b.length
/-- the sum of a text -/
def sumL (b : List Int) : List Int := digL (chn (allL b) ((allL b).length / 64)).list
set_option maxRecDepth 100000 in
theorem digL_length (l : List Int) : (digL l).length = 4 * l.length := by
  induction l with
  | nil => rfl
  | cons x r ih => simp [digL, putL_length, ih]; omega
set_option maxRecDepth 100000 in
theorem sumL_length (b : List Int) : (sumL b).length = 32 := by unfold sumL; rw [digL_length]; rfl
set_option maxRecDepth 100000 in
theorem digL_byt (l : List Int) : Byt (digL l) := by
  induction l with
  | nil => exact Byt.nil
  | cons x r ih => exact Byt.append (putL_byt _ _) ih
set_option maxRecDepth 100000 in
theorem allL_byt {b : List Int} (h : Byt b) : Byt (allL b) := h.append (padL_byt _)
set_option maxRecDepth 100000 in
theorem allL_64 (b : List Int) : (allL b).length % 64 = 0 := by
  unfold allL; rw [List.length_append, padL_length]; unfold padZ; omega
set_option maxRecDepth 100000 in
theorem cells_size (s : St) : s.cells.size = 8 := rfl
set_option maxRecDepth 100000 in
theorem cells_one (s : St) : s.cells.all (·.oneCell') = true := by simp [St.cells, Value.oneCell']
set_option maxRecDepth 100000 in
theorem cells_info (s : St) : (Tryd.prog.info? 103).map (·.size) = some s.cells.size := by kernel_rfl
end Go.Proofs.YtbednfacipphhaaDoor
namespace Go.Proofs.YtbednfacipphhaaDoor
open Go.RowKit
set_option linter.unusedVariables false

/-- a digest -/
def Dg (d : List Int) : Prop := d.length = 32 ∧ Byt d
def Dgl (L : List (List Int)) : Prop := ∀ d ∈ L, Dg d
set_option maxRecDepth 100000 in
theorem Dgl.take {L : List (List Int)} (h : Dgl L) (n : Nat) : Dgl (L.take n) := fun d hd => h d (List.mem_of_mem_take hd)
set_option maxRecDepth 100000 in
theorem Dgl.drop {L : List (List Int)} (h : Dgl L) (n : Nat) : Dgl (L.drop n) := fun d hd => h d (List.mem_of_mem_drop hd)
set_option maxRecDepth 100000 in
theorem Dgl.append {L M : List (List Int)} (h : Dgl L) (k : Dgl M) : Dgl (L ++ M) := by
  intro d hd; rcases List.mem_append.1 hd with h' | h'
  · exact h d h'
  · exact k d h'
set_option maxRecDepth 100000 in
theorem Dgl.one {d : List Int} (h : Dg d) : Dgl [d] := by intro c hc; simp at hc; rw [hc]; exact h
set_option maxRecDepth 100000 in
theorem Dgl.nil : Dgl [] := by intro c hc; cases hc
set_option maxRecDepth 100000 in
theorem Dgl.getD {L : List (List Int)} (h : Dgl L) (i : Nat) (hi : i < L.length) : Dg (L.getD i []) := by
  rw [List.getD_eq_getElem?_getD, List.getElem?_eq_getElem hi]; exact h _ (List.getElem_mem hi)

/-- the first k bits of a byte -/
def bc (c : Int) (k : Nat) : Int := ((c.toNat / 2 ^ (8 - k) * 2 ^ (8 - k) : Nat) : Int)
set_option maxRecDepth 100000 in
theorem bc_b {c : Int} (h : 0 ≤ c ∧ c ≤ 255) (k : Nat) : 0 ≤ bc c k ∧ bc c k ≤ 255 := by
  have := Nat.div_mul_le_self c.toNat (2 ^ (8 - k))
  unfold bc; omega
set_option maxRecDepth 100000 in
theorem bc_zero {c : Int} (h : 0 ≤ c ∧ c ≤ 255) : bc c 0 = 0 := by
  unfold bc; rw [Nat.div_eq_of_lt (by simp; omega)]; rfl
set_option maxRecDepth 100000 in
theorem bc_eight {c : Int} (h : 0 ≤ c ∧ c ≤ 255) : bc c 8 = c := by
  unfold bc; simp; omega
/-- the first n bits of a digest -/
def cutN (d : List Int) (n : Nat) : List Int := (List.range 32).map fun j => bc (d.getD j 0) (min (n - 8 * j) 8)
set_option maxRecDepth 100000 in
theorem cutN_length (d : List Int) (n : Nat) : (cutN d n).length = 32 := by simp [cutN]
set_option maxRecDepth 100000 in
theorem cutN_getD (d : List Int) (n j : Nat) (hj : j < 32) : (cutN d n).getD j 0 = bc (d.getD j 0) (min (n - 8 * j) 8) := by
  unfold cutN; rw [List.getD_eq_getElem?_getD, List.getElem?_map, List.getElem?_range hj]; rfl
set_option maxRecDepth 100000 in
theorem cutN_dg {d : List Int} (h : Byt d) (n : Nat) : Dg (cutN d n) := by
  refine ⟨cutN_length d n, fun c hc => ?_⟩
  obtain ⟨j, _, rfl⟩ := List.mem_map.1 hc
  exact bc_b (h.getD j) _
/-- how many bits are kept -/
def nb (w : Int) : Nat := (min (max w 0) 256).toNat
set_option maxRecDepth 100000 in
theorem nb_le (w : Int) : nb w ≤ 256 := by unfold nb; omega
def cutL (d : List Int) (w : Int) : List Int := cutN d (nb w)
set_option maxRecDepth 100000 in
theorem cutL_dg {d : List Int} (h : Byt d) (w : Int) : Dg (cutL d w) := cutN_dg h _
set_option maxRecDepth 100000 in
theorem sum_byt (b : List Int) : Byt (sumL b) := digL_byt _
def leafL (b : List Int) (w : Int) : List Int := cutL (sumL (0 :: b)) w
def nodeL (x y : List Int) (w : Int) : List Int := cutL (sumL (1 :: (x ++ y))) w
set_option maxRecDepth 100000 in
theorem leafL_dg (b : List Int) (w : Int) : Dg (leafL b w) := cutL_dg (sum_byt _) w
set_option maxRecDepth 100000 in
theorem nodeL_dg (x y : List Int) (w : Int) : Dg (nodeL x y w) := cutL_dg (sum_byt _) w
set_option maxRecDepth 100000 in
/-- a byte's bits, one more -/
theorem bc_more : ∀ c : Fin 256, ∀ r : Fin 8, bc (c.val : Int) (r.val + 1) = bc (c.val : Int) r.val + (if c.val &&& (128 >>> r.val) = 0 then (0 : Int) else ((128 >>> r.val : Nat) : Int)) := by decide +kernel
set_option maxRecDepth 100000 in
theorem set_cut (d : List Int) (hd : Dg d) (n : Nat) (hn : n < 256) : (cutN d n).set (n / 8) (bc (d.getD (n / 8) 0) (n % 8 + 1)) = cutN d (n + 1) := by
  apply List.ext_getElem?
  intro j
  by_cases hj : j < 32
  · have e1 : (cutN d (n + 1))[j]? = some (bc (d.getD j 0) (min (n + 1 - 8 * j) 8)) := by unfold cutN; rw [List.getElem?_map, List.getElem?_range hj]; rfl
    have e2 : (cutN d n)[j]? = some (bc (d.getD j 0) (min (n - 8 * j) 8)) := by unfold cutN; rw [List.getElem?_map, List.getElem?_range hj]; rfl
    rw [e1, List.getElem?_set]
    by_cases h : n / 8 = j
    · rw [if_pos h, if_pos (by rw [cutN_length]; omega), h, show min (n + 1 - 8 * j) 8 = n % 8 + 1 from by omega]
    · rw [if_neg h, e2]
      by_cases h2 : j < n / 8
      · rw [show min (n + 1 - 8 * j) 8 = 8 from by omega, show min (n - 8 * j) 8 = 8 from by omega]
      · rw [show min (n + 1 - 8 * j) 8 = 0 from by omega, show min (n - 8 * j) 8 = 0 from by omega]
  · rw [List.getElem?_eq_none (by rw [List.length_set, cutN_length]; omega), List.getElem?_eq_none (by rw [cutN_length]; omega)]
set_option maxRecDepth 100000 in
theorem cutN_same (d : List Int) (n : Nat) (hn : n < 256) (h : bc (d.getD (n / 8) 0) (n % 8 + 1) = bc (d.getD (n / 8) 0) (n % 8)) (hd : Dg d) : cutN d n = cutN d (n + 1) := by
  rw [← set_cut d hd n hn, h]
  apply List.ext_getElem?
  intro j
  rw [List.getElem?_set]
  by_cases hj : n / 8 = j
  · rw [if_pos hj, if_pos (by rw [cutN_length]; omega), ← hj]
    unfold cutN; rw [List.getElem?_map, List.getElem?_range (by omega)]
    show some (bc _ (min (n - 8 * (n / 8)) 8)) = _
    rw [show min (n - 8 * (n / 8)) 8 = n % 8 from by omega]
  · rw [if_neg hj]
set_option maxRecDepth 100000 in
theorem cutN_zero (d : List Int) (hd : Dg d) : cutN d 0 = List.replicate 32 0 := by
  apply List.ext_getElem?
  intro j
  by_cases hj : j < 32
  · unfold cutN
    rw [List.getElem?_map, List.getElem?_range hj, List.getElem?_replicate, if_pos hj]
    show some (bc _ (min (0 - 8 * j) 8)) = _
    rw [show min (0 - 8 * j) 8 = 0 from by omega, bc_zero (hd.2.getD j)]
  · rw [List.getElem?_eq_none (by rw [cutN_length]; omega), List.getElem?_eq_none (by simp; omega)]

/-- where a list of n is cut -/
def splitN (n : Nat) : Nat := if n < 2 then 0 else 2 ^ Nat.log2 (n - 1)
set_option maxRecDepth 100000 in
theorem splitN_pos {n : Nat} (h : 2 ≤ n) : 1 ≤ splitN n := by
  unfold splitN; rw [if_neg (by omega)]; exact Nat.one_le_two_pow
set_option maxRecDepth 100000 in
theorem splitN_lt {n : Nat} (h : 1 ≤ n) : splitN n < n := by
  unfold splitN
  by_cases h2 : n < 2
  · rw [if_pos h2]; omega
  · rw [if_neg h2]
    have := Nat.log2_self_le (n := n - 1) (by omega)
    omega
set_option maxRecDepth 100000 in
theorem splitN_half {n : Nat} (h : 2 ≤ n) : n ≤ 2 * splitN n := by
  unfold splitN; rw [if_neg (by omega)]
  have := Nat.lt_log2_self (n := n - 1)
  rw [Nat.pow_succ] at this
  omega
set_option maxRecDepth 100000 in
theorem splitN_of {n j : Nat} (h1 : 2 ^ j < n) (h2 : n ≤ 2 ^ (j + 1)) : splitN n = 2 ^ j := by
  have := Nat.one_le_two_pow (n := j)
  unfold splitN; rw [if_neg (by omega)]
  have e : Nat.log2 (n - 1) = j := (Nat.log2_eq_iff (by omega)).2 ⟨by omega, by omega⟩
  rw [e]
set_option maxRecDepth 100000 in
theorem splitN_pow {n : Nat} (h : 2 ≤ n) : ∃ j, splitN n = 2 ^ j := ⟨_, by unfold splitN; rw [if_neg (by omega)]⟩
set_option maxRecDepth 100000 in
theorem splitN_le {n b : Nat} (h : 2 ≤ n) (hb : n ≤ 2 ^ b) : ∃ c, b = c + 1 ∧ splitN n ≤ 2 ^ c := by
  obtain ⟨j, hj⟩ := splitN_pow h
  have h1 := splitN_lt (n := n) (by omega)
  rw [hj] at h1
  have h2 : j < b := (Nat.pow_lt_pow_iff_right (by decide : 1 < 2)).1 (by omega)
  refine ⟨b - 1, by omega, ?_⟩
  rw [hj]
  exact Nat.pow_le_pow_right (by decide) (by omega)
/-- the root of a list -/
def rootL (L : List (List Int)) (w : Int) : List Int :=
  if L.length = 0 then cutL (sumL []) w
  else if h : L.length = 1 then L.getD 0 []
  else nodeL (rootL (L.take (splitN L.length)) w) (rootL (L.drop (splitN L.length)) w) w
  termination_by L.length
  decreasing_by
    · have := splitN_lt (n := L.length) (by omega)
      rw [List.length_take]; omega
    · have := splitN_pos (n := L.length) (by omega)
      rw [List.length_drop]; omega
set_option maxRecDepth 100000 in
theorem rootL_nil (w : Int) : rootL [] w = cutL (sumL []) w := by rw [rootL]; rfl
set_option maxRecDepth 100000 in
theorem rootL_one (L : List (List Int)) (w : Int) (h : L.length = 1) : rootL L w = L.getD 0 [] := by rw [rootL, if_neg (by omega), dif_pos h]
set_option maxRecDepth 100000 in
theorem rootL_more (L : List (List Int)) (w : Int) (h : 2 ≤ L.length) : rootL L w = nodeL (rootL (L.take (splitN L.length)) w) (rootL (L.drop (splitN L.length)) w) w := by rw [rootL, if_neg (by omega), dif_neg (by omega)]
set_option maxRecDepth 100000 in
theorem rootL_dg (L : List (List Int)) (w : Int) (h : Dgl L) : Dg (rootL L w) := by
  by_cases h0 : L.length = 0
  · rw [List.length_eq_zero_iff.1 h0, rootL_nil]; exact cutL_dg (sum_byt _) w
  · by_cases h1 : L.length = 1
    · rw [rootL_one L w h1]; exact h.getD 0 (by omega)
    · rw [rootL_more L w (by omega)]; exact nodeL_dg _ _ _
/-- the path of a place -/
def pathL (L : List (List Int)) (i : Nat) (w : Int) : List (List Int) :=
  if h : L.length ≤ 1 then []
  else if i < splitN L.length then pathL (L.take (splitN L.length)) i w ++ [rootL (L.drop (splitN L.length)) w]
  else pathL (L.drop (splitN L.length)) (i - splitN L.length) w ++ [rootL (L.take (splitN L.length)) w]
  termination_by L.length
  decreasing_by
    · have := splitN_lt (n := L.length) (by omega)
      rw [List.length_take]; omega
    · have := splitN_pos (n := L.length) (by omega)
      rw [List.length_drop]; omega
set_option maxRecDepth 100000 in
theorem pathL_one (L : List (List Int)) (i : Nat) (w : Int) (h : L.length ≤ 1) : pathL L i w = [] := by rw [pathL, dif_pos h]
set_option maxRecDepth 100000 in
theorem pathL_left (L : List (List Int)) (i : Nat) (w : Int) (h : 2 ≤ L.length) (hi : i < splitN L.length) : pathL L i w = pathL (L.take (splitN L.length)) i w ++ [rootL (L.drop (splitN L.length)) w] := by
  rw [pathL, dif_neg (by omega), if_pos hi]
set_option maxRecDepth 100000 in
theorem pathL_right (L : List (List Int)) (i : Nat) (w : Int) (h : 2 ≤ L.length) (hi : ¬ i < splitN L.length) : pathL L i w = pathL (L.drop (splitN L.length)) (i - splitN L.length) w ++ [rootL (L.take (splitN L.length)) w] := by
  rw [pathL, dif_neg (by omega), if_neg hi]
/-- the growth from a beginning -/
def growL (L : List (List Int)) (m : Nat) (whole : Bool) (w : Int) : List (List Int) :=
  if h : L.length ≤ m ∨ m = 0 then (if whole then [] else [rootL L w])
  else if m ≤ splitN L.length then growL (L.take (splitN L.length)) m whole w ++ [rootL (L.drop (splitN L.length)) w]
  else growL (L.drop (splitN L.length)) (m - splitN L.length) false w ++ [rootL (L.take (splitN L.length)) w]
  termination_by L.length
  decreasing_by
    · have := splitN_lt (n := L.length) (by omega)
      rw [List.length_take]; omega
    · have := splitN_pos (n := L.length) (by omega)
      rw [List.length_drop]; omega
set_option maxRecDepth 100000 in
theorem growL_all (L : List (List Int)) (w : Int) : growL L L.length true w = [] := by rw [growL, dif_pos (.inl (Nat.le_refl _))]; rfl
set_option maxRecDepth 100000 in
theorem growL_some (L : List (List Int)) (w : Int) : growL L L.length false w = [rootL L w] := by rw [growL, dif_pos (.inl (Nat.le_refl _))]; rfl
set_option maxRecDepth 100000 in
theorem growL_left (L : List (List Int)) (m : Nat) (b : Bool) (w : Int) (h1 : 1 ≤ m) (h : m < L.length) (hm : m ≤ splitN L.length) : growL L m b w = growL (L.take (splitN L.length)) m b w ++ [rootL (L.drop (splitN L.length)) w] := by
  rw [growL, dif_neg (by omega), if_pos hm]
set_option maxRecDepth 100000 in
theorem growL_right (L : List (List Int)) (m : Nat) (b : Bool) (w : Int) (h : m < L.length) (hm : ¬ m ≤ splitN L.length) : growL L m b w = growL (L.drop (splitN L.length)) (m - splitN L.length) false w ++ [rootL (L.take (splitN L.length)) w] := by
  rw [growL, dif_neg (by omega), if_neg hm]
set_option maxRecDepth 100000 in
theorem take_len (L : List (List Int)) (h : 1 ≤ L.length) : (L.take (splitN L.length)).length = splitN L.length := by
  have := splitN_lt h
  rw [List.length_take]; omega
set_option maxRecDepth 100000 in
theorem pathL_dg (n : Nat) : ∀ (L : List (List Int)) (i : Nat) (w : Int), L.length ≤ n → Dgl L → Dgl (pathL L i w) := by
  induction n with
  | zero => intro L i w hn _; rw [pathL_one L i w (by omega)]; exact Dgl.nil
  | succ n ih =>
    intro L i w hn h
    by_cases h1 : L.length ≤ 1
    · rw [pathL_one L i w h1]; exact Dgl.nil
    · have hp := splitN_pos (n := L.length) (by omega)
      have hlt := splitN_lt (n := L.length) (by omega)
      by_cases hi : i < splitN L.length
      · rw [pathL_left L i w (by omega) hi]
        exact (ih _ i w (by rw [List.length_take]; omega) (h.take _)).append (Dgl.one (rootL_dg _ _ (h.drop _)))
      · rw [pathL_right L i w (by omega) hi]
        exact (ih _ _ w (by rw [List.length_drop]; omega) (h.drop _)).append (Dgl.one (rootL_dg _ _ (h.take _)))
set_option maxRecDepth 100000 in
theorem growL_dg (n : Nat) : ∀ (L : List (List Int)) (m : Nat) (b : Bool) (w : Int), L.length ≤ n → 1 ≤ m → m ≤ L.length → Dgl L → Dgl (growL L m b w) := by
  induction n with
  | zero => intro L m b w hn h1 h2 _; omega
  | succ n ih =>
    intro L m b w hn h1 h2 h
    by_cases hm : m = L.length
    · subst hm
      cases b
      · rw [growL_some]; exact Dgl.one (rootL_dg _ _ h)
      · rw [growL_all]; exact Dgl.nil
    · have hp := splitN_pos (n := L.length) (by omega)
      have hlt := splitN_lt (n := L.length) (by omega)
      by_cases hi : m ≤ splitN L.length
      · rw [growL_left L m b w h1 (by omega) hi]
        exact (ih _ m b w (by rw [List.length_take]; omega) h1 (by rw [List.length_take]; omega) (h.take _)).append (Dgl.one (rootL_dg _ _ (h.drop _)))
      · rw [growL_right L m b w (by omega) hi]
        exact (ih _ _ false w (by rw [List.length_drop]; omega) (by omega) (by rw [List.length_drop]; omega) (h.drop _)).append (Dgl.one (rootL_dg _ _ (h.take _)))
set_option maxRecDepth 100000 in
/-- lists shorter than 2^40 have paths no longer than themselves -/
theorem pathL_len (n : Nat) : ∀ (L : List (List Int)) (i : Nat) (w : Int), L.length ≤ n → (pathL L i w).length ≤ n := by
  induction n with
  | zero => intro L i w hn; rw [pathL_one L i w (by omega)]; exact Nat.zero_le _
  | succ n ih =>
    intro L i w hn
    by_cases h1 : L.length ≤ 1
    · rw [pathL_one L i w h1]; exact Nat.zero_le _
    · have hp := splitN_pos (n := L.length) (by omega)
      have hlt := splitN_lt (n := L.length) (by omega)
      by_cases hi : i < splitN L.length
      · rw [pathL_left L i w (by omega) hi, List.length_append]
        have := ih (L.take (splitN L.length)) i w (by rw [List.length_take]; omega)
        simp; omega
      · rw [pathL_right L i w (by omega) hi, List.length_append]
        have := ih (L.drop (splitN L.length)) (i - splitN L.length) w (by rw [List.length_drop]; omega)
        simp; omega
set_option maxRecDepth 100000 in
theorem growL_len (n : Nat) : ∀ (L : List (List Int)) (m : Nat) (b : Bool) (w : Int), L.length ≤ n → 1 ≤ m → m ≤ L.length → (growL L m b w).length ≤ n := by
  induction n with
  | zero => intro L m b w hn h1 h2; omega
  | succ n ih =>
    intro L m b w hn h1 h2
    by_cases hm : m = L.length
    · subst hm
      cases b
      · rw [growL_some]; simp
      · rw [growL_all]; simp
    · have hp := splitN_pos (n := L.length) (by omega)
      have hlt := splitN_lt (n := L.length) (by omega)
      by_cases hi : m ≤ splitN L.length
      · rw [growL_left L m b w h1 (by omega) hi, List.length_append]
        have := ih (L.take (splitN L.length)) m b w (by rw [List.length_take]; omega) h1 (by rw [List.length_take]; omega)
        simp; omega
      · rw [growL_right L m b w (by omega) hi, List.length_append]
        have := ih (L.drop (splitN L.length)) (m - splitN L.length) false w (by rw [List.length_drop]; omega) (by omega) (by rw [List.length_drop]; omega)
        simp; omega
end Go.Proofs.YtbednfacipphhaaDoor
