/-
  The reference's comparison of digests, at equal lists.
-/
import Derived.Test.YtbkpnfejhaedhaaRef1
import Derived.Stop.BytesEq
namespace Go.Proofs.Ytbkpnfejhaedhaa
open Go.RowKit
set_option linter.unusedVariables false
set_option linter.unusedSimpArgs false

theorem byteOne (w : World) : (sizeOf 5).run Try.prog w = .ok 1 w := by kernel_rfl
theorem digestGuard : Try.prog.eqGuardType Try.prog.depth 57 = false := by kernel_rfl
theorem run_same_digest (d : List UInt8) (h : d.length = 16) (w : World) : (Op.equalIn 10000 57 (.agg (BV d).toArray) (.agg (BV d).toArray)).run Try.prog w = .ok true w := by
  have := run_equalIn_bytes (P := Try.prog) w 9998 57 5 16 Try.underlying57 Try.underlying5 byteOne d d h h
  rw [beq_self_eq_true] at this
  exact this

theorem step_quiet_load {P : Program} {ops : Array Oper} {o : Oper} {a : Act} {C : World → Prop} {K : Act → Prop} {E : Prop} (hgd : o.guard = none) (ty : TypeId) (x : Operand) (ho : o.op = .load ty x)
    (b off : Nat) (hx : a.eval x = .pointer (some ⟨b, off, none⟩)) (cs : List Value) (d : TypeDesc) (hc : ∀ w, C w → w.rangeAt b off cs)
    (hu : P.underlying ty = some d) (hd : d.isRow = true) (hi : (P.info? ty).map (·.size) = some cs.length) (h : K (a.put o.dst (.agg cs.toArray))) :
    if Region.wanted o (yielded ops a.tmps) = true then o.quiet P a C K else E := by
  have hw : Region.wanted o (yielded ops a.tmps) = true := by simp [Region.wanted, hgd]
  rw [if_pos hw]
  refine ⟨_, fun w hC => ?_, h⟩
  unfold Oper.quietAt execOp
  simp only [ho, hx, Instr.loadAt, Instr.sureAddr, Sem.run_bind, Sem.run_pure, Result.andThen_ok, run_loadVar_mid w b off ty cs d (hc w hC) hu hd hi]
  exact ⟨rfl, rfl⟩

theorem addr_plain {w : World} {ad : Addr} {v : Value} (h : w.cell? ad = some v) : ad = ⟨ad.block, ad.off, none⟩ := by
  have hs : ad.spot = none := by
    unfold World.cell? at h
    split at h
    · split at h
      · cases h
      · next hs => simpa using hs
    · cases h
  obtain ⟨b, o, s⟩ := ad
  simp only at hs
  subst hs
  rfl

theorem digest_range {w : World} {B n : Nat} {A : Option Addr} {ds : List (List UInt8)} (h : ∀ d ∈ ds, d.length = 16) (hr : Reads w B 16 A n (BV ds.flatten)) (hn : n = ds.length) (k : Nat) (hk : k < ds.length) :
    ∃ b o, A = some ⟨b, o, none⟩ ∧ w.rangeAt b (o + k * 16) (BV ds[k]) := by
  obtain ⟨ad, rfl, _, hc⟩ := hr.2 (by omega)
  have hcells := digest_cells h hr hn k hk
  have h16 : ds[k].length = 16 := h _ (List.getElem_mem hk)
  have hl : 0 < (BV ds.flatten).length := by rw [digs_len16 ds h]; omega
  have hc0 := hc 0 _ (List.getElem?_eq_getElem hl)
  have hp : ad = ⟨ad.block, ad.off, none⟩ := addr_plain (by simpa [Addr.add] using hc0)
  refine ⟨ad.block, ad.off, by rw [← hp], fun j v hj => ?_⟩
  have := hcells j v hj
  rw [hp, add_of_add, Addr.add_mid] at this
  rw [Nat.add_assoc]
  exact this

set_option maxHeartbeats 400000 in
set_option maxRecDepth 100000 in
theorem sameDigests_eq (A B : Option Addr) (n c d : Nat) (ds : List (List UInt8)) (w : World) (h : ∀ d ∈ ds, d.length = 16) (ha : Reads w w.heap.size 16 A n (BV ds.flatten)) (hb : Reads w w.heap.size 16 B n (BV ds.flatten)) (hn : n = ds.length) (hm : n ≤ 549755813888) (hnc : n ≤ c) (hnd : n ≤ d) :
    Calls Try.prog 36 #[.slice A n c, .slice B n d] w fun e w' => e = .returned (.bool true) ∧ ∃ k, w' = w.drewN k := by
  have hn0 : ((n : Int) != n) = false := by simp
  have HA := hide ha
  have HB := hide hb
  have HN := hide hn
  have HD := hide h
  have hgd := digestGuard
  have hun := Try.underlying57
  clear ha hb hn h
  go_enter Try.func36, Try.ntmps36
  go_wp2
  go_loopw [5] (fun i wr => ∃ k m : Nat, k ≤ n ∧ i = .int .i64 (k : Int) ∧ wr = w.drewN m) (fun i _ => n - (intOf i).toNat)
  case atStart => exact ⟨0, 0, Nat.zero_le _, rfl, rfl⟩
  case round =>
    obtain ⟨k, m, hk, rfl, hwr⟩ := hrel
    subst hwr
    by_cases hlt : k < n
    · have hkd : k < ds.length := by have := HN.out; omega
      obtain ⟨ba, oa, hA, hca⟩ := digest_range HD.out HA.out HN.out k hkd
      obtain ⟨bb, ob, hB, hcb⟩ := digest_range HD.out HB.out HN.out k hkd
      have h16 : ds[k].length = 16 := HD.out _ (List.getElem_mem hkd)
      have hEQ := run_same_digest ds[k] h16
      have hcl : (BV ds[k]).length = 16 := by rw [BV_len]; exact h16
      have hone := BV_one ds[k]
      generalize BV ds[k] = cs at *
      have hsz : (Try.prog.info? 57).map (·.size) = some cs.length := by rw [hcl]; exact digestSize
      subst hA hB
      have hk0 : (0 : Int) ≤ (k : Int) := by omega
      have hkn : (k : Int) < (n : Int) := by omega
      clear h16 hkd
      go_wp2
      have hca' : ∀ w', (∃ q, w' = (w.drewN m).drewN q) → w'.rangeAt ba (oa + k * 16) cs := fun w' hw' => by obtain ⟨q, rfl⟩ := hw'; exact hca
      have hcb' : ∀ w', (∃ q, w' = (w.drewN m).drewN q) → w'.rangeAt bb (ob + k * 16) cs := fun w' hw' => by obtain ⟨q, rfl⟩ := hw'; exact hcb
      have HCA := hide hca'
      have HCB := hide hcb'
      have HSZ := hide hsz
      clear hca hcb hca' hcb' hsz hcl
      refine wp_region_quiet_lit (by kernel_rfl) (by kernel_rfl) ?_
      repeat (first
        | (refine wpQuiet_step (fun K hK => ?_); with_reducible refine step_quiet_load rfl 57 (.tmp 19) rfl ba (oa + k * 16) rfl cs _ HCA.out Try.underlying57 rfl HSZ.out (hK _ ?_); clear hK K)
        | (refine wpQuiet_step (fun K hK => ?_); with_reducible refine step_quiet_load rfl 57 (.tmp 23) rfl bb (ob + k * 16) rfl cs _ HCB.out Try.underlying57 rfl HSZ.out (hK _ ?_); clear hK K)
        | quiet_step (fail))
      refine wpQuiet_nil ?_
      intro _ hw'
      obtain ⟨nq, hw''⟩ := hw'
      subst hw''
      go_wp2
      go_roundw
      case rel => exact ⟨k + 1, _, by omega, by go_num, rfl⟩
      case measure => simp [intOf]; omega
    · obtain rfl : k = n := by omega
      go_wp2
      go_ret
      exact ⟨rfl, _, rfl⟩

end Go.Proofs.Ytbkpnfejhaedhaa
