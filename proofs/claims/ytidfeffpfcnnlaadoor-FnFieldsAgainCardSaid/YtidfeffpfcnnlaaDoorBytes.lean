/- Bytes, figures and strings: small contracts that several laws share. No condition. -/
import Derived.Test.YtidfeffpfcnnlaaDoorKit
import Derived.Deep.RegionHeld3
import Derived.Deep.AppendLies
namespace Go.Proofs.YtidfeffpfcnnlaaDoor
open Go.ChangeShapes Go.WideShapes Go.ChangeAt Go.RowKit

def figN (x : Nat) : Int := if x < 10 then 48 + x else 87 + x
theorem take_snoc (s : ByteArray) (k : Nat) (h : k < s.size) : s.data.toList.take (k + 1) = s.data.toList.take k ++ [s[k]] := by
  rw [List.take_succ_eq_append_getElem (by simpa using h)]; rfl

theorem info5 : (Tryd.prog.info? 5).map (fun i => (i.zero, i.size, i.bytes)) = some (some (.int .u8 0), 1, 1) := by kernel_rfl

theorem convert_own {P : Program} {w : World} {base : Nat} {e src : TypeId} {v : Value} {n : Nat} {xs : List Int} (hs : P.underlying src = some (.slice e)) (he : P.underlying e = some (.int .u8))
    (hown : w.ownsRow base e 1 v n (xs.map (Value.int .u8))) : ∀ dst, P.underlying dst = some .string → (convert src dst v).run P w = .ok (.string (strOfNums xs)) w := by
  intro dst hd
  have hlen : xs.length = n := by simpa using hown.1
  rcases hown.2 with ⟨rfl, h0⟩ | ⟨g, cap, cur, rfl, hb, hg, hc, hm, hsz, htk⟩
  · subst h0
    have : xs = [] := List.length_eq_zero_iff.1 hlen
    subst this
    exact run_convert_bytes_nil w src e hs he 0 0 dst hd
  · refine run_convert_bytes_arg w src e hs he g 0 n cap xs hlen (fun i hi => ?_) dst hd
    have h1 : (cur.toList.take (n * 1))[i]? = some (.int .u8 (xs.getD i 0)) := by
      rw [htk]
      simp [List.getElem?_map, List.getElem?_eq_getElem (show i < xs.length by omega), List.getD]
    rw [List.getElem?_take] at h1
    split at h1
    · simp only [World.cell?, hg, Nat.zero_add]
      simpa using h1
    · cases h1

theorem figure_any (x : Nat) (hx : x < 16) (w : World) :
    Calls Tryd.prog 31 #[.int .i64 (x : Int)] w fun e w' => e = .returned (.int .u8 (figN x)) ∧ w = w' := by
  by_cases h : x < 10
  · go_enter Tryd.func31, Tryd.ntmps31
    go_wp2
    go_ret
    exact ⟨by simp [figN, h], rfl⟩
  · go_enter Tryd.func31, Tryd.ntmps31
    go_wp2
    go_ret
    exact ⟨by simp [figN, h]; omega, rfl⟩

def figI (y : Int) : Int := figN y.toNat
theorem figI_div (n : Nat) : figI ((n : Int) / 16) = figN (n / 16) := by unfold figI; congr 1
theorem figI_mod (n : Nat) : figI ((n : Int) % 16) = figN (n % 16) := by unfold figI; congr 1
theorem figI_any (y : Int) (h0 : 0 ≤ y) (h1 : y < 16) (w : World) :
    Calls Tryd.prog 31 #[.int .i64 y] w fun e w' => e = .returned (.int .u8 (figI y)) ∧ w = w' := by
  obtain ⟨x, rfl⟩ := Int.eq_ofNat_of_zero_le h0
  exact figure_any x (by omega) w

def strL (l : List UInt8) : ByteArray := ⟨l.toArray⟩
theorem strOfNums_strL (l : List UInt8) : strOfNums (l.map fun c => (c.toNat : Int)) = strL l := by
  unfold strOfNums strL
  congr 2
  rw [List.map_map]
  conv => rhs; rw [← List.map_id l]
  apply List.map_congr_left
  intro c _
  simp

theorem strL_append (a b : List UInt8) : strL a ++ strL b = strL (a ++ b) := ByteArray.mk_append_mk a b
theorem strL_size (a : List UInt8) : (strL a).size = a.length := by simp [strL, ByteArray.size]

end Go.Proofs.YtidfeffpfcnnlaaDoor
