/- THE PROGRAM's FUNCTIONS DO WHAT IS ASKED OF THEM. -/
import Derived.Test.YtejghoncihdfkaaEpW8
import Derived.Test.YtejghoncihdfkaaEpW9
import Derived.Test.YtejghoncihdfkaaEpWA
import Derived.Test.YtejghoncihdfkaaEpCon
namespace Go.Proofs.Ytejghoncihdfkaa.Ep
open Go.RowKit

theorem con : Con :=
  { new := fun n Av w hA => new_any n Av w hA
    check := fun y e Av w HS HE => (check_any y e Av w HS HE).mono (fun r w' h => ⟨⟨chE e, h.1, by unfold chE; cases okE e <;> rfl⟩, h.2⟩)
    same := fun y z e f Av Av' w HS _ HA HB => psame_any y z e f Av Av' w HS HA HB
    pin := fun y e c Av w hA HS HE => pin_any y e c Av w hA HS HE
    un := fun y e c Av w hA HS HE => unpin_any y e c Av w hA HS HE
    re := fun y e c ob Av w hA HS HE => ret_any y e c ob Av w hA HS HE
    ad := fun y e Av w hA HS HE => adv_any y e Av w hA HS HE
    rp := fun y e c Av w hA HS HE => reap_any y e c Av w hA HS HE }
end Go.Proofs.Ytejghoncihdfkaa.Ep
