/- The laws of packing, and what the project answers there. -/
import Derived.Test.YtkiocjbooegajarDoorLawPck
import Derived.Test.YtkiocjbooegajarDoorPckG
