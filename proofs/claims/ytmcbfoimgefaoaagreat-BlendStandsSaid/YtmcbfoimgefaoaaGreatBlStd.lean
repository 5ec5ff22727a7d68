/- Plain facts of layer blend: what two digests are merged to stands for what both accepted. No program is spoken of here. -/
import Derived.Test.YtmcbfoimgefaoaaGreatBlN
import Derived.Test.YtmcbfoimgefaoaaGreatDgN
namespace Go.Proofs.YtmcbfoimgefaoaaGreat
set_option linter.unusedVariables false

theorem bmgL_app {l k ka kb : Int} {L M : List Nd} (a : DgV l ka L) (b : DgV l kb M) (h1 : 1 ≤ k) (h2 : k ≤ ka) (h3 : k ≤ kb) (h : ¬ 72057594037927935 < sumC L + sumC M) (P : Int → Bool) : wtF P (bmgL l k L M) = wtF P (pressW l k L) + wtF P (pressW l k M) := by
  have x := dgV_lower a h1 h2
  have y := dgV_lower b h1 h3
  have z := dgV_merge x.1 y.1 x.2.1 y.2.1 (by rw [x.2.2.2, y.2.2.2]; omega)
  rw [bmgL_eq, wt_same (roll_good z.1.roll) (X := pressW l k L ++ pressW l k M) (fun n hn => by
    rcases List.mem_append.1 hn with q | q
    · exact good_nonneg (roll_good x.1.roll) n q
    · exact good_nonneg (roll_good y.1.roll) n q) (fun i => by rw [bmg_sum, sumAt_app]), wtF_app]
theorem bl_stand {l ka kb id : Int} {L M T U : List Nd} (a : DgV l ka L) (b : DgV l kb M) (s : DgS l L T) (t : DgS l M U) (hr : RightC l id) (h1 : id ≤ 9223372036854775807) (h : ¬ 72057594037927935 < sumC L + sumC M) :
    wtF (aboveB id) (bmgL l (bmgK ka kb) L M) ≤ betN T (loN l id) (hiN l id) + betN U (loN l id) (hiN l id) ∧
    betN T (loN l id) (hiN l id) + betN U (loN l id) (hiN l id) ≤ wtF (aboveB id) (bmgL l (bmgK ka kb) L M) + wtF (overB id) (bmgL l (bmgK ka kb) L M) := by
  obtain ⟨k1, k2, k3⟩ := bmgK_le ka kb
  have k0 := k3 a.k1 b.k1
  have x := dgV_lower a k0 k1
  have y := dgV_lower b k0 k2
  have p := std_held (std_pre s.std a.roll (pressed_fun (bmgK ka kb) a.roll).live) x.1.roll s.bag hr h1
  have q := std_held (std_pre t.std b.roll (pressed_fun (bmgK ka kb) b.roll).live) y.1.roll t.bag hr h1
  rw [bmgL_app a b k0 k1 k2 h, bmgL_app a b k0 k1 k2 h]
  have e1 : preA l (sumC L / bmgK ka kb) L (pressN l (bmgK ka kb) L) = pressW l (bmgK ka kb) L := rfl
  have e2 : preA l (sumC M / bmgK ka kb) M (pressN l (bmgK ka kb) M) = pressW l (bmgK ka kb) M := rfl
  rw [e1] at p
  rw [e2] at q
  omega
theorem bmgK_comm (ka kb : Int) : bmgK kb ka = bmgK ka kb := by unfold bmgK; split <;> split <;> omega
theorem bmgL_comm {l ka kb : Int} {L M : List Nd} (a : DgV l ka L) (b : DgV l kb M) : bmgL l (bmgK kb ka) M L = bmgL l (bmgK ka kb) L M := by
  obtain ⟨k1, k2, k3⟩ := bmgK_le ka kb
  have k0 := k3 a.k1 b.k1
  rw [bmgK_comm, bmgL_eq, bmgL_eq]
  exact bmg_comm (dgV_lower b k0 k2).1.roll (dgV_lower a k0 k1).1.roll
theorem light_v {l k : Int} {L : List Nd} (v : DgV l k L) : lightB l L k = true := by
  have hk : kIs k = true := decide_eq_true ⟨v.k1, v.k2⟩
  unfold lightB
  have z : LightC l (capW L k) L := v.light
  simp [hk, z]
end Go.Proofs.YtmcbfoimgefaoaaGreat
