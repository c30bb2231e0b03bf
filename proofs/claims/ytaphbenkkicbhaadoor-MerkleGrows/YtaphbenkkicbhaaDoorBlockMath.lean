/- The rounds of SHA-256 on numbers: no walk. -/
import Derived.Test.YtaphbenkkicbhaaDoorShaMath
import Derived.Test.YtaphbenkkicbhaaDoorGet
namespace Go.Proofs.YtaphbenkkicbhaaDoor
open Go.RowKit
set_option linter.unusedVariables false

def ad (a b : Int) : Int := (a + b) % 4294967296
theorem ad_u (a b : Int) : U32 (ad a b) := by unfold U32 ad; omega
def nt (a : Int) : Int := 4294967295 - a
theorem nt_u {a : Int} (h : U32 a) : U32 (nt a) := by unfold U32 nt at *; omega
def wsum (p q r x y : Int) : Int := ad (ad (ad p x) q) y
def sg0 (v : Int) : Int := xr (xr (turnV v 7) (turnV v 18)) (v / 8)
def sg1 (v : Int) : Int := xr (xr (turnV v 17) (turnV v 19)) (v / 1024)
theorem div_u {v : Int} (h : U32 v) (d : Int) (hd : 0 < d) : U32 (v / d) := by
  have h1 := h.1; have h2 := h.2
  exact ⟨Int.ediv_nonneg h1 (Int.le_of_lt hd), Int.lt_of_le_of_lt (Int.ediv_le_self _ h1) h2⟩
theorem sg0_u {v : Int} (h : U32 v) : U32 (sg0 v) := xr_u (xr_u (turn_u _ h) (turn_u _ h)) (div_u h 8 (by decide))
theorem sg1_u {v : Int} (h : U32 v) : U32 (sg1 v) := xr_u (xr_u (turn_u _ h) (turn_u _ h)) (div_u h 1024 (by decide))
/-- the number w[i], those ahead being l -/
def wx (l : List Int) (i : Nat) : Int := ad (ad (ad (l.getD (i - 16) 0) (sg0 (l.getD (i - 15) 0))) (l.getD (i - 7) 0)) (sg1 (l.getD (i - 2) 0))
/-- four bytes as a number -/
def w4 (b : List Int) (i : Nat) : Int := getV ((b.drop (4 * i)).take 4)
/-- w[0] to w[k - 1] -/
def sch (b : List Int) : Nat → List Int
  | 0 => []
  | k + 1 => sch b k ++ [if k < 16 then w4 b k else wx (sch b k) k]
theorem sch_length (b : List Int) (k : Nat) : (sch b k).length = k := by
  induction k with
  | zero => rfl
  | succ k ih => simp [sch, ih]
theorem w4_u (b : List Int) (i : Nat) (h : Byt b) : U32 (w4 b i) := by
  unfold w4
  have hb : Byt ((b.drop (4 * i)).take 4) := fun c hc => h c (List.mem_of_mem_drop (List.mem_of_mem_take hc))
  have h1 := getV_bd _ hb
  have h2 : ((b.drop (4 * i)).take 4).length ≤ 4 := List.length_take_le _ _
  rcases (by omega : ((b.drop (4 * i)).take 4).length = 0 ∨ ((b.drop (4 * i)).take 4).length = 1 ∨ ((b.drop (4 * i)).take 4).length = 2 ∨ ((b.drop (4 * i)).take 4).length = 3 ∨ ((b.drop (4 * i)).take 4).length = 4) with e | e | e | e | e <;> rw [e] at h1 <;> exact ⟨h1.1, by omega⟩
theorem sch_u (b : List Int) (k : Nat) (h : Byt b) : U32s (sch b k) := by
  induction k with
  | zero => intro c hc; simp [sch] at hc
  | succ k ih =>
    intro c hc
    rcases List.mem_append.1 hc with h' | h'
    · exact ih c h'
    · simp at h'; subst h'; split
      · exact w4_u b k h
      · exact ad_u _ _

structure St where
  a : Int
  b : Int
  c : Int
  d : Int
  e : Int
  f : Int
  g : Int
  h : Int
structure StU (s : St) : Prop where
  a : U32 s.a
  b : U32 s.b
  c : U32 s.c
  d : U32 s.d
  e : U32 s.e
  f : U32 s.f
  g : U32 s.g
  h : U32 s.h
def rT (k w : Int) (s : St) : Int := ad (ad (ad (ad s.h (thr s.e 6 11 25)) (xr (an s.e s.f) (an (nt s.e) s.g))) k) w
def rU (s : St) : Int := ad (thr s.a 2 13 22) (xr (xr (an s.a s.b) (an s.a s.c)) (an s.b s.c))
def rnd (k w : Int) (s : St) : St := ⟨ad (rT k w s) (rU s), s.a, s.b, s.c, ad s.d (rT k w s), s.e, s.f, s.g⟩
theorem rnd_u {s : St} (k w : Int) (h : StU s) : StU (rnd k w s) := ⟨ad_u _ _, h.a, h.b, h.c, ad_u _ _, h.e, h.f, h.g⟩
def rnds (b : List Int) (s : St) : Nat → St
  | 0 => s
  | i + 1 => rnd (keyL.getD i 0) ((sch b 64).getD i 0) (rnds b s i)
theorem rnds_u (b : List Int) {s : St} (h : StU s) (i : Nat) : StU (rnds b s i) := by
  induction i with
  | zero => exact h
  | succ i ih => exact rnd_u _ _ ih
def St.plus (s t : St) : St := ⟨ad s.a t.a, ad s.b t.b, ad s.c t.c, ad s.d t.d, ad s.e t.e, ad s.f t.f, ad s.g t.g, ad s.h t.h⟩
/-- what 64 bytes make of eight numbers -/
def blk (s : St) (b : List Int) : St := s.plus (rnds b s 64)
theorem blk_u (s : St) (b : List Int) : StU (blk s b) := ⟨ad_u _ _, ad_u _ _, ad_u _ _, ad_u _ _, ad_u _ _, ad_u _ _, ad_u _ _, ad_u _ _⟩
def St.cells (s : St) : Array Value := #[.int .u32 s.a, .int .u32 s.b, .int .u32 s.c, .int .u32 s.d, .int .u32 s.e, .int .u32 s.f, .int .u32 s.g, .int .u32 s.h]
def st0 : St := ⟨1779033703, 3144134277, 1013904242, 2773480762, 1359893119, 2600822924, 528734635, 1541459225⟩
theorem st0_u : StU st0 := by constructor <;> exact ⟨by decide, by decide⟩
/-- the numbers behind i blocks of the bytes l -/
def chn (l : List Int) : Nat → St
  | 0 => st0
  | i + 1 => blk (chn l i) ((l.drop (64 * i)).take 64)
theorem chn_u (l : List Int) (i : Nat) : StU (chn l i) := by
  cases i with
  | zero => exact st0_u
  | succ i => exact blk_u _ _
/-- the eight numbers as a list -/
def St.list (s : St) : List Int := [s.a, s.b, s.c, s.d, s.e, s.f, s.g, s.h]
theorem St.list_u {s : St} (h : StU s) : U32s s.list := by
  intro c hc
  simp only [St.list, List.mem_cons, List.not_mem_nil, or_false] at hc
  rcases hc with rfl | rfl | rfl | rfl | rfl | rfl | rfl | rfl
  · exact h.a
  · exact h.b
  · exact h.c
  · exact h.d
  · exact h.e
  · exact h.f
  · exact h.g
  · exact h.h
theorem St.cells_list (s : St) : s.cells = (uv s.list).toArray := rfl
/-- numbers as bytes, four each -/
def digL : List Int → List Int
  | [] => []
  | x :: r => putL x 4 ++ digL r
/-- a text and what stands behind it -/
def allL (b : List Int) : List Int := b ++ padL b.length
/-- the sum of a text -/
def sumL (b : List Int) : List Int := digL (chn (allL b) ((allL b).length / 64)).list
theorem digL_length (l : List Int) : (digL l).length = 4 * l.length := by
  induction l with
  | nil => rfl
  | cons x r ih => simp [digL, putL_length, ih]; omega
theorem sumL_length (b : List Int) : (sumL b).length = 32 := by unfold sumL; rw [digL_length]; rfl
theorem digL_byt (l : List Int) : Byt (digL l) := by
  induction l with
  | nil => exact Byt.nil
  | cons x r ih => exact Byt.append (putL_byt _ _) ih
theorem allL_byt {b : List Int} (h : Byt b) : Byt (allL b) := h.append (padL_byt _)
theorem allL_64 (b : List Int) : (allL b).length % 64 = 0 := by
  unfold allL; rw [List.length_append, padL_length]; unfold padZ; omega
theorem cells_size (s : St) : s.cells.size = 8 := rfl
theorem cells_one (s : St) : s.cells.all (·.oneCell') = true := by simp [St.cells, Value.oneCell']
theorem cells_info (s : St) : (Tryd.prog.info? 68).map (·.size) = some s.cells.size := by kernel_rfl
end Go.Proofs.YtaphbenkkicbhaaDoor
