/-
  list at int and at string, Ints and Strings, by their contracts.
-/
import Derived.Test.YtbkpnfejhaedhaaEnc2
import Derived.Test.YtbkpnfejhaedhaaDec4
namespace Go.Proofs.Ytbkpnfejhaedhaa
open Go.RowKit
set_option linter.unusedVariables false
set_option linter.unusedSimpArgs false

namespace Wr
/-- the encoding of a string -/
def encB (s : List UInt8) : List UInt8 := enc s.length ++ s
/-- the encodings of elements, one behind the other -/
def encL {α : Type} (e : α → List UInt8) (l : List α) : List UInt8 := l.flatMap e
theorem encL_nil {α : Type} (e : α → List UInt8) : encL e [] = [] := rfl
theorem encL_snoc {α : Type} (e : α → List UInt8) (l : List α) (x : α) : encL e (l ++ [x]) = encL e l ++ e x := by simp [encL, List.flatMap_append]
theorem encL_take {α : Type} (e : α → List UInt8) (l : List α) (k : Nat) (h : k < l.length) : encL e (l.take (k + 1)) = encL e (l.take k) ++ e l[k] := by
  rw [List.take_succ_eq_append_getElem h, encL_snoc]
theorem encL_take_le {α : Type} (e : α → List UInt8) (l : List α) (k : Nat) : (encL e (l.take k)).length ≤ (encL e l).length := by
  have h : encL e l = encL e (l.take k) ++ encL e (l.drop k) := by
    conv => lhs; rw [← List.take_append_drop k l]
    unfold encL
    rw [List.flatMap_append]
  rw [h, List.length_append]
  exact Nat.le_add_right _ _
theorem encB_len (s : List UInt8) : (encB s).length = (enc s.length).length + s.length := by simp [encB]
end Wr

theorem own_slice {w : World} {b e size n : Nat} {v : Value} {xs : List Value} (h : w.ownsRow b e size v n xs) : ∃ A c, v = .slice A n c ∧ n ≤ c ∧ (A = none → n = 0) := by
  rcases h.2 with ⟨rfl, rfl⟩ | ⟨g, cap, cur, rfl, _, _, hc, _⟩
  · exact ⟨none, 0, rfl, Nat.le_refl _, fun _ => rfl⟩
  · exact ⟨_, _, rfl, hc, fun h => by cases h⟩
theorem reads_item {w : World} {B n : Nat} {A : Option Addr} {xs : List Value} (hr : Reads w B 1 A n xs) (k : Nat) (hk : k < n) : ∃ ad, A = some ad ∧ ∃ hx : k < xs.length, w.cell? (ad.add k) = some xs[k] := by
  obtain ⟨ad, u, rfl, _, hx, hc⟩ := hr.at_ hk
  have hl : k < xs.length := by have := hr.1; omega
  rw [List.getElem?_eq_getElem hl] at hx
  injection hx with hx
  subst hx
  exact ⟨ad, rfl, hl, hc⟩

set_option maxHeartbeats 400000 in
set_option maxRecDepth 100000 in
theorem listInt_any (A : Option Addr) (n c : Nat) (xs : List Int) (w : World) (hr : Reads w w.heap.size 1 A n (xs.map (Value.int .i64))) (hnc : n ≤ c) (hm : n ≤ 1099511627776) (hbig : (Wr.encL Wr.enc xs).length ≤ 8796093022208) (hx : ∀ x ∈ xs, Wr.inI x) :
    Calls Try.prog 40 #[.slice A n c, .func (.func 38) #[] #[]] w fun e w' => ∃ v, e = .returned v ∧ w'.ownsRow w.heap.size 5 1 v ((Wr.enc xs.length).length + (Wr.encL Wr.enc xs).length) (BV (Wr.enc xs.length ++ Wr.encL Wr.enc xs)) ∧ Below w.heap.size w w' := by
  have hn : n = xs.length := by have := hr.1; simp at this; omega
  have HI := hide (int_any (n : Int) w (by unfold Wr.inI; omega))
  have hE := Wr.enc_le (n : Int)
  have HN := hide hn
  have HR := hide hr
  have HB := hide hbig
  rw [← hn]
  clear hr hn hbig
  generalize hEN : Wr.enc (n : Int) = E at *
  clear hEN
  go_enter Try.func40, Try.ntmps40
  go_wp2_with fail
  refine (unhide HI).mono ?_
  rintro e w1 ⟨v1, rfl, hown1, hb1⟩
  have HO1 := hide hown1
  clear hown1
  go_wp2
  go_loopw [5, 13] (fun v i wr => ∃ k : Nat, k ≤ n ∧ i = .int .i64 (k : Int) ∧ wr.ownsRow w.heap.size 5 1 v (E.length + (Wr.encL Wr.enc (xs.take k)).length) (BV (E ++ Wr.encL Wr.enc (xs.take k))) ∧ Below w.heap.size w wr) (fun _ i _ => n - (intOf i).toNat)
  case atStart => exact ⟨0, Nat.zero_le _, rfl, by simpa [Wr.encL] using HO1.out, hb1⟩
  case round =>
    obtain ⟨k, hk, rfl, hown, hbr⟩ := hrel
    have HOW := hide hown
    have HBR := hide hbr
    have hszr := hbr.size
    clear hb1
    by_cases hlt : k < n
    · obtain ⟨ad, hA, hkl, hcell⟩ := reads_item (HR.out.below hbr) k hlt
      subst hA
      rw [List.getElem_map] at hcell
      have hkl' : k < xs.length := by rw [List.length_map] at hkl; exact hkl
      have hle := Wr.encL_take_le Wr.enc xs (k + 1)
      rw [Wr.encL_take Wr.enc xs k hkl', List.length_append] at hle
      have hB := HB.out
      obtain ⟨A1, c1, hv, _, _⟩ := own_slice hown
      rw [hv] at hown ⊢
      have C := addInt_any w.heap.size A1 _ c1 xs[k] _ wr hown hszr (by omega) (hx _ (List.getElem_mem hkl'))
      have HST := hide (Wr.encL_take Wr.enc xs k hkl')
      have C := hide C
      generalize xs[k] = x at *
      clear hown hbr hle hB hv hkl hkl'
      go_wp2_with fail
      refine (unhide C).mono ?_
      rintro e w2 ⟨v2, rfl, hown2, hb2⟩
      have HO2 := hide hown2
      clear hown2
      go_wp2
      go_roundw
      case rel =>
        refine ⟨k + 1, by omega, by go_num, ?_, HBR.out.trans hb2⟩
        have := HO2.out
        rw [HST.out, List.length_append, ← Nat.add_assoc, ← List.append_assoc]
        exact this
      case measure => simp [intOf]; omega
    · obtain rfl : k = n := by omega
      clear hown hbr
      go_wp2
      go_ret
      refine ⟨_, rfl, ?_, HBR.out⟩
      have := HOW.out
      rw [List.take_of_length_le (by rw [← HN.out]; exact Nat.le_refl _)] at this
      exact this

set_option maxHeartbeats 400000 in
set_option maxRecDepth 100000 in
/-- Ints, for every list -/
theorem ints_any (A : Option Addr) (n c : Nat) (xs : List Int) (w : World) (hr : Reads w w.heap.size 1 A n (xs.map (Value.int .i64))) (hnc : n ≤ c) (hm : n ≤ 1099511627776) (hbig : (Wr.encL Wr.enc xs).length ≤ 8796093022208) (hx : ∀ x ∈ xs, Wr.inI x) :
    Calls Try.prog 18 #[.slice A n c] w fun e w' => ∃ v, e = .returned v ∧ w'.ownsRow w.heap.size 5 1 v ((Wr.enc xs.length).length + (Wr.encL Wr.enc xs).length) (BV (Wr.enc xs.length ++ Wr.encL Wr.enc xs)) ∧ Below w.heap.size w w' := by
  have H := hide (listInt_any A n c xs w hr hnc hm hbig hx)
  clear hr hbig
  go_enter Try.func18, Try.ntmps18
  go_wp2_with fail
  refine (unhide H).mono ?_
  rintro e w' ⟨v, rfl, hown, hb⟩
  have HO := hide hown
  clear hown
  go_wp2
  go_ret
  exact ⟨v, rfl, HO.out, hb⟩

set_option maxHeartbeats 400000 in
set_option maxRecDepth 100000 in
theorem listStr_any (A : Option Addr) (n c : Nat) (xs : List (List UInt8)) (w : World) (hr : Reads w w.heap.size 1 A n (xs.map VS)) (hnc : n ≤ c) (hm : n ≤ 1099511627776) (hbig : (Wr.encL Wr.encB xs).length ≤ 8796093022208)  :
    Calls Try.prog 41 #[.slice A n c, .func (.func 39) #[] #[]] w fun e w' => ∃ v, e = .returned v ∧ w'.ownsRow w.heap.size 5 1 v ((Wr.enc xs.length).length + (Wr.encL Wr.encB xs).length) (BV (Wr.enc xs.length ++ Wr.encL Wr.encB xs)) ∧ Below w.heap.size w w' := by
  have hn : n = xs.length := by have := hr.1; simp at this; omega
  have HI := hide (int_any (n : Int) w (by unfold Wr.inI; omega))
  have hE := Wr.enc_le (n : Int)
  have HN := hide hn
  have HR := hide hr
  have HB := hide hbig
  rw [← hn]
  clear hr hn hbig
  generalize hEN : Wr.enc (n : Int) = E at *
  clear hEN
  go_enter Try.func41, Try.ntmps41
  go_wp2_with fail
  refine (unhide HI).mono ?_
  rintro e w1 ⟨v1, rfl, hown1, hb1⟩
  have HO1 := hide hown1
  clear hown1
  go_wp2
  go_loopw [5, 13] (fun v i wr => ∃ k : Nat, k ≤ n ∧ i = .int .i64 (k : Int) ∧ wr.ownsRow w.heap.size 5 1 v (E.length + (Wr.encL Wr.encB (xs.take k)).length) (BV (E ++ Wr.encL Wr.encB (xs.take k))) ∧ Below w.heap.size w wr) (fun _ i _ => n - (intOf i).toNat)
  case atStart => exact ⟨0, Nat.zero_le _, rfl, by simpa [Wr.encL] using HO1.out, hb1⟩
  case round =>
    obtain ⟨k, hk, rfl, hown, hbr⟩ := hrel
    have HOW := hide hown
    have HBR := hide hbr
    have hszr := hbr.size
    clear hb1
    by_cases hlt : k < n
    · obtain ⟨ad, hA, hkl, hcell⟩ := reads_item (HR.out.below hbr) k hlt
      subst hA
      rw [List.getElem_map] at hcell
      have hkl' : k < xs.length := by rw [List.length_map] at hkl; exact hkl
      have hle := Wr.encL_take_le Wr.encB xs (k + 1)
      rw [Wr.encL_take Wr.encB xs k hkl', List.length_append] at hle
      have hB := HB.out
      obtain ⟨A1, c1, hv, _, _⟩ := own_slice hown
      rw [hv] at hown ⊢
      have C := addBytes_any w.heap.size A1 _ c1 xs[k] _ wr hown hszr (by rw [Wr.encB_len] at hle; omega)
      have HST := hide (Wr.encL_take Wr.encB xs k hkl')
      have C := hide C
      generalize xs[k] = x at *
      clear hown hbr hle hB hv hkl hkl'
      go_wp2_with fail
      refine (unhide C).mono ?_
      rintro e w2 ⟨v2, rfl, hown2, hb2⟩
      have HO2 := hide hown2
      clear hown2
      go_wp2
      go_roundw
      case rel =>
        refine ⟨k + 1, by omega, by go_num, ?_, HBR.out.trans hb2⟩
        have := HO2.out
        rw [HST.out, List.length_append, ← Nat.add_assoc, ← List.append_assoc]
        rw [Wr.encB_len, ← Nat.add_assoc]
        unfold Wr.encB
        rw [← List.append_assoc]
        exact this
      case measure => simp [intOf]; omega
    · obtain rfl : k = n := by omega
      clear hown hbr
      go_wp2
      go_ret
      refine ⟨_, rfl, ?_, HBR.out⟩
      have := HOW.out
      rw [List.take_of_length_le (by rw [← HN.out]; exact Nat.le_refl _)] at this
      exact this

set_option maxHeartbeats 400000 in
set_option maxRecDepth 100000 in
/-- Strings, for every list -/
theorem strings_any (A : Option Addr) (n c : Nat) (xs : List (List UInt8)) (w : World) (hr : Reads w w.heap.size 1 A n (xs.map VS)) (hnc : n ≤ c) (hm : n ≤ 1099511627776) (hbig : (Wr.encL Wr.encB xs).length ≤ 8796093022208)  :
    Calls Try.prog 20 #[.slice A n c] w fun e w' => ∃ v, e = .returned v ∧ w'.ownsRow w.heap.size 5 1 v ((Wr.enc xs.length).length + (Wr.encL Wr.encB xs).length) (BV (Wr.enc xs.length ++ Wr.encL Wr.encB xs)) ∧ Below w.heap.size w w' := by
  have H := hide (listStr_any A n c xs w hr hnc hm hbig )
  clear hr hbig
  go_enter Try.func20, Try.ntmps20
  go_wp2_with fail
  refine (unhide H).mono ?_
  rintro e w' ⟨v, rfl, hown, hb⟩
  have HO := hide hown
  clear hown
  go_wp2
  go_ret
  exact ⟨v, rfl, HO.out, hb⟩

end Go.Proofs.Ytbkpnfejhaedhaa
